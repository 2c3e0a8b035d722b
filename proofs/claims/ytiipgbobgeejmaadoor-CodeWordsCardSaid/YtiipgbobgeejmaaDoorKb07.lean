/- Package transform: Multiply: what the call returns. -/
import Derived.Test.YtiipgbobgeejmaaDoorKb05
import Derived.Test.YtiipgbobgeejmaaDoorKb06
import Derived.Test.YtiipgbobgeejmaaDoorKb03
/- Package transform: Multiply: what the call returns. -/
namespace Go.Proofs.YtiipgbobgeejmaaDoor
open Go.RowKit
set_option linter.unusedVariables false

theorem mulL_len0 {f : Int} {a b : List Nat} (h : (normF f a).length = 0 ∨ (normF f b).length = 0) : mulL f a b = [] := by unfold mulL; rw [if_pos h]
theorem mulL_len {f : Int} {a b : List Nat} (h : ¬ ((normF f a).length = 0 ∨ (normF f b).length = 0)) : (mulL f a b).length = (normF f a).length + (normF f b).length - 1 := by unfold mulL; rw [if_neg h]; simp

end Go.Proofs.YtiipgbobgeejmaaDoor

/- Package transform: Widen: what the call returns. -/
namespace Go.Proofs.YtiipgbobgeejmaaDoor
open Go.RowKit
set_option linter.unusedVariables false

theorem widen_arg (f b : Int) (v : Value) (w : World) (hT : Tab w) (hv : validB f = false) :
    Calls Tryd.prog 73 #[.int .i64 f, v, .int .i64 b] w fun e w' => e = .returned (.tuple #[.slice none 0 0, .int .i64 1]) ∧ w = w' := by
  have HV := Lib.hid hv; clear hv
  go_enter Tryd.func73, Tryd.ntmps73
  go_wp2_with (go_at_call 39; refine (valid_any _ _).mono ?_; rintro e w' ⟨rfl, rfl⟩; rw [HV.out])
  go_ret2
  exact ⟨rfl, rfl⟩
theorem widen_size (f b : Int) (p : List Nat) (v : Value) (w : World) (hT : Tab w) (hD : TabD w) (hv : validB f = true) (hR : Reads w v p) (hL : p.length ≤ 17592186044416) (hno : ∀ k, k ≤ grF f → p.length ≠ 2 ^ k) :
    Calls Tryd.prog 73 #[.int .i64 f, v, .int .i64 b] w fun e w' => e = .returned (.tuple #[.slice none 0 0, .int .i64 2]) ∧ On w w' := by
  have HV := Lib.hid hv; clear hv
  obtain ⟨oa, oc, rfl⟩ := hR.shape
  have HE := Lib.hid (expo_bad f p.length w w (On.refl hT) hD hL hno)
  clear hno hR hD
  go_enter Tryd.func73, Tryd.ntmps73
  go_wp2_with (first
    | (go_at_call 39; refine (valid_any _ _).mono ?_; rintro e w' ⟨rfl, rfl⟩; rw [HV.out])
    | (go_at_call 63; refine HE.out.mono ?_; rintro e w1 ⟨⟨kk, rfl⟩, hW1⟩))
  go_ret2
  exact ⟨rfl, hW1⟩
theorem widen_range (f b : Int) (k : Nat) (p : List Nat) (v : Value) (w : World) (hT : Tab w) (hD : TabD w) (hv : validB f = true) (hR : Reads w v p) (hk : k ≤ grF f) (hl : p.length = 2 ^ k) (hb : b < 0 ∨ (grF f : Int) - (k : Int) < b) :
    Calls Tryd.prog 73 #[.int .i64 f, v, .int .i64 b] w fun e w' => e = .returned (.tuple #[.slice none 0 0, .int .i64 2]) ∧ On w w' := by
  have HV := Lib.hid hv; clear hv
  have hg := grF_le f
  obtain ⟨oa, oc, rfl⟩ := hR.shape
  have HE := Lib.hid (expo_yes f k p.length w w (On.refl hT) hD (by omega) hl)
  rw [decide_eq_true hk] at HE
  clear hR hD hl
  have hc : b < 0 ∨ (0 ≤ b ∧ (grF f : Int) - (k : Int) < b) := by omega
  clear hb
  rcases hc with h | ⟨h1, h2⟩
  all_goals
    go_enter Tryd.func73, Tryd.ntmps73
    go_wp2_with (first
      | (go_at_call 39; refine (valid_any _ _).mono ?_; rintro e w' ⟨rfl, rfl⟩; rw [HV.out])
      | (go_at_call 63; refine HE.out.mono ?_; rintro e w1 ⟨rfl, hW1⟩)
      | (go_at_call 50; refine (greatest_any f _ _ hW1).mono ?_; rintro e w2 ⟨rfl, hW2⟩))
    go_ret2
    first | exact ⟨rfl, hW2⟩ | exact ⟨rfl, hW1⟩
theorem gen_shift {f : Int} (hv : validB f = true) : shB f (gOf f) = true := by
  rcases field_cases f hv with rfl | rfl | rfl | rfl <;> decide +kernel
theorem ifftL_bd {f : Int} {k : Nat} {v : List Nat} (hp : 0 < pOf f) : ∀ x ∈ ifftL f k v, x ≤ 18446744073709551615 := fun x hx => by
  have := ifftL_lt f k v hp x hx; have := pOf_le f; omega
set_option maxHeartbeats 400000 in
theorem widen_any (f : Int) (k b : Nat) (p : List Nat) (v : Value) (w : World) (hT : Tab w) (hD : TabD w) (hv : validB f = true) (hR : Reads w v p) (hk : k ≤ grF f) (hl : p.length = 2 ^ k) (hb : k + b ≤ grF f) :
    Calls Tryd.prog 73 #[.int .i64 f, v, .int .i64 (b : Int)] w fun e w' =>
      (∃ g, e = .returned (.tuple #[.slice (some ⟨g, 0, none⟩) (2 ^ (k + b)) (2 ^ (k + b)), .int .i64 0]) ∧ w.heap.size ≤ g ∧ Blk g w' (valL f (k + b) (gOf f) (ifftL f k p))) ∧ On w w' := by
  obtain ⟨K, hK⟩ : ∃ K, K = k + b := ⟨_, rfl⟩
  rw [← hK] at hb ⊢
  have HV := Lib.hid hv
  have hp := (valid_iff f).1 hv
  have hg := grF_le f
  obtain ⟨oa, oc, rfl⟩ := hR.shape
  have HE := Lib.hid (expo_yes f k p.length w w (On.refl hT) hD (by omega) hl)
  rw [decide_eq_true hk] at HE
  have h23 : 2 ^ k ≤ 2 ^ 18 := Nat.pow_le_pow_right (by omega) (by omega)
  have h24 : 2 ^ k ≤ 2 ^ K := Nat.pow_le_pow_right (by omega) (by omega)
  have HFR := Lib.hid (fun w h1 h2 => fromRoots_any f k p (.slice oa p.length oc) w h1 hv hk h2 (Nat.le_of_eq hl))
  have HIL := Lib.hid (ifftL_len f k p)
  have HBD := Lib.hid (ifftL_bd (f := f) (k := k) (v := p) hp)
  have HGS := Lib.hid (gen_shift hv)
  have hgl := gOf_le f
  have HVA : Hid (∀ (l : List Nat) (u : Value) (w : World), Tab w → Reads w u l → l.length ≤ 2 ^ k → _) := fun l u w h1 h2 h3 => values_any f K (gOf f) l u w h1 (by omega) (gen_shift hv) hb h2 (by omega)
  have HSL : Hid (∀ l : List Nat, l.length ≤ 2 ^ k → (shiftF f l (gOf f)).length ≤ 2 ^ K) := fun l h => Nat.le_trans (Nat.le_trans (shiftF_len f l _) h) h24
  have HR := Lib.hid hR
  clear hR hD hl hv
  generalize ifftL f k p = I at *
  obtain ⟨N, hN⟩ : ∃ N, N = 2 ^ k := ⟨_, rfl⟩
  obtain ⟨M, hM⟩ : ∃ M, M = 2 ^ K := ⟨_, rfl⟩
  rw [← hN] at h23 HFR HIL HVA HSL
  rw [← hM] at HVA HSL
  rw [← hM]
  clear hN hM h24
  have hkb : (k : Int) + (b : Int) = (K : Int) := by omega
  clear hK
  go_enter Tryd.func73, Tryd.ntmps73
  go_wp2_with (first
    | (go_at_call 39; refine (valid_any _ _).mono ?_; rintro e w' ⟨rfl, rfl⟩; rw [HV.out])
    | (go_at_call 63; refine HE.out.mono ?_; rintro e w1 ⟨rfl, hW1⟩)
    | (go_at_call 50; refine (greatest_any f _ _ hW1).mono ?_; rintro e w2 ⟨rfl, hW2⟩)
    | (go_at_call 72; refine (gen_any f _ _ hW2).mono ?_; rintro e w3 ⟨rfl, hW3⟩))
  refine (HFR.out _ hW3.tab (HR.out.on hW3)).mono ?_
  rintro e w4 ⟨⟨g, rfl, hg2, hB4⟩, hO4⟩
  have hR4 : Reads w4 (.slice (some ⟨g, 0, none⟩) N N) I := by
    have h := hB4.reads HBD.out (by rw [HIL.out]; omega) N
    rw [HIL.out] at h; exact h
  have HW4 := Lib.hid (hW3.trans hO4)
  have HVL := Lib.hid (HVA.out I _ w4 HW4.out.tab hR4 (by rw [HIL.out]; exact Nat.le_refl _))
  clear hB4 hO4 hg2 hR4 hW1 hW2 hW3
  go_wp2_with (go_at_call 16; refine HVL.out.mono ?_; rintro e w5 ⟨-, h5, hO5⟩; obtain ⟨g5, rfl, hg5, hB5⟩ := h5 (HSL.out I (by rw [HIL.out]; exact Nat.le_refl _)))
  go_ret2
  exact ⟨⟨g5, rfl, by have := HW4.out.size; omega, hB5⟩, HW4.out.trans hO5⟩
end Go.Proofs.YtiipgbobgeejmaaDoor

/- Contracts of package transform at lists that are known, each with what it leaves. -/
namespace Go.Proofs.YtiipgbobgeejmaaDoor
open Go.RowKit
set_option linter.unusedVariables false

theorem heap_at (w : World) (o : Obj) (n : Nat) (h : n = w.heap.size) : (w.alloc o).heap[n]? = some o := by subst h; show (w.heap.push o)[w.heap.size]? = some o; simp
theorem reads_at (w : World) (B : Nat) (l : List Nat) (cap : Nat) (c : Array Value) (hB : w.heap[B]? = some (.cells c 22 (0, 0))) (hc : c.toList = nums l) (hU : ∀ x ∈ l, x ≤ 18446744073709551615) (hL : l.length ≤ 9223372036854775807) : Reads w (.slice (some ⟨B, 0, none⟩) l.length cap) l := by
  refine ⟨hU, hL, .inr ⟨B, 0, cap, rfl, fun i hi => ?_⟩⟩
  have h := nums_get l i hi
  rw [← hc] at h
  unfold World.cell?
  rw [hB]
  simpa using h
theorem reads_new (w : World) (l : List Nat) (cap : Nat) (c : Array Value) (B : Nat) (hB : B = w.heap.size) (hc : c.toList = nums l) (hU : ∀ x ∈ l, x ≤ 18446744073709551615) (hL : l.length ≤ 9223372036854775807) : Reads (w.alloc (.cells c 22)) (.slice (some ⟨B, 0, none⟩) l.length cap) l :=
  reads_at _ _ l cap c (heap_at _ _ _ hB) hc hU hL
theorem valL_bd {f : Int} {k s : Nat} {p : List Nat} (hp : 0 < pOf f) : ∀ x ∈ valL f k s p, x ≤ 18446744073709551615 := fun x hx => by
  have := fftL_lt f k (shiftF f p s) hp x hx; have := pOf_le f; omega
theorem valL_len (f : Int) (k s : Nat) (p : List Nat) : (valL f k s p).length = 2 ^ k := fftL_len _ _ _
theorem coefL_bd {f : Int} {k s : Nat} {p : List Nat} (hp : 0 < pOf f) : ∀ x ∈ coefL f k s p, x ≤ 18446744073709551615 := fun x hx => by
  have := coefL_lt f k s p hp x hx; have := pOf_le f; omega
theorem pow_big {f : Int} {k : Nat} (h : k ≤ grF f) : 2 ^ k ≤ 262144 := by
  have h1 := grF_le f
  have h2 := Nat.pow_le_pow_right (show 0 < 2 by omega) (show k ≤ 18 by omega)
  omega
theorem w_values (f : Int) (k s : Nat) (p : List Nat) (v : Value) (w : World) (n : Nat) (V : List Nat) (hn : n = 2 ^ k) (hV : valL f k s p = V) (hT : Tab w) (hs : s ≤ 18446744073709551615) (hb : shB f s = true) (hk : k ≤ grF f) (hR : Reads w v p) (hL : p.length ≤ 1000000000) (hl : (shiftF f p s).length ≤ 2 ^ k) :
    Calls Tryd.prog 16 #[.int .i64 f, .int .i64 (k : Int), .int .u64 (s : Int), v] w fun e w' => ∃ a, e = .returned (.tuple #[.slice a n n, .int .i64 0]) ∧ Reads w' (.slice a n n) V ∧ On w w' := by
  subst hn
  have hv : validB f = true := by unfold shB at hb; simp at hb; exact hb.1
  have hp := (valid_iff f).1 hv
  have h18 := pow_big hk
  refine (values_any f k s p v w hT hs hb hk hR (by omega)).mono ?_
  rintro e w' ⟨-, h2, h3⟩
  obtain ⟨g, rfl, _, hB⟩ := h2 hl
  have h := hB.reads (valL_bd hp) (by rw [valL_len]; omega) (2 ^ k)
  rw [valL_len, hV] at h
  exact ⟨_, rfl, h, h3⟩
theorem w_values_limit (f : Int) (k s : Nat) (p : List Nat) (v : Value) (w : World) (hT : Tab w) (hs : s ≤ 18446744073709551615) (hb : shB f s = true) (hk : k ≤ grF f) (hR : Reads w v p) (hL : p.length ≤ 1000000000) (hl : 2 ^ k < (shiftF f p s).length) :
    Calls Tryd.prog 16 #[.int .i64 f, .int .i64 (k : Int), .int .u64 (s : Int), v] w fun e w' => e = .returned (.tuple #[.slice none 0 0, .int .i64 3]) ∧ On w w' :=
  (values_any f k s p v w hT hs hb hk hR (by omega)).mono fun e w' ⟨h1, _, h3⟩ => ⟨h1 hl, h3⟩
theorem w_values_arg (f k : Int) (s : Nat) (v : Value) (w : World) (hT : Tab w) (hs : s ≤ 18446744073709551615) (hb : shB f s = false) :
    Calls Tryd.prog 16 #[.int .i64 f, .int .i64 k, .int .u64 (s : Int), v] w fun e w' => e = .returned (.tuple #[.slice none 0 0, .int .i64 1]) ∧ On w w' :=
  (values_arg f k s v w hT hs hb).mono fun e w' ⟨h1, h2⟩ => ⟨h1, h2 ▸ On.refl hT⟩
theorem w_coefs (f : Int) (k s : Nat) (p : List Nat) (v : Value) (w : World) (n : Nat) (V : List Nat) (hn : n = 2 ^ k) (hV : coefL f k s p = V) (hT : Tab w) (hD : TabD w) (hs : s ≤ 18446744073709551615) (hb : shB f s = true) (hk : k ≤ grF f) (hR : Reads w v p) (hl : p.length = 2 ^ k) :
    Calls Tryd.prog 23 #[.int .i64 f, .int .u64 (s : Int), v] w fun e w' => ∃ a, e = .returned (.tuple #[.slice a n n, .int .i64 0]) ∧ Reads w' (.slice a n n) V ∧ On w w' := by
  subst hn
  have hv : validB f = true := by unfold shB at hb; simp at hb; exact hb.1
  have hp := (valid_iff f).1 hv
  have h18 := pow_big hk
  refine (coefs_any f k s p v w hT hD hs hb hk hR hl).mono ?_
  rintro e w' ⟨⟨g, rfl, _, hB⟩, h3⟩
  have h := hB.reads (coefL_bd hp) (by rw [coefL_len]; omega) (2 ^ k)
  rw [coefL_len, hV] at h
  exact ⟨_, rfl, h, h3⟩
theorem w_widen (f : Int) (k b : Nat) (p : List Nat) (v : Value) (w : World) (n : Nat) (V : List Nat) (hn : n = 2 ^ (k + b)) (hV : valL f (k + b) (gOf f) (ifftL f k p) = V) (hT : Tab w) (hD : TabD w) (hv : validB f = true) (hk : k ≤ grF f) (hR : Reads w v p) (hl : p.length = 2 ^ k) (hb : k + b ≤ grF f) :
    Calls Tryd.prog 73 #[.int .i64 f, v, .int .i64 (b : Int)] w fun e w' => ∃ a, e = .returned (.tuple #[.slice a n n, .int .i64 0]) ∧ Reads w' (.slice a n n) V ∧ On w w' := by
  subst hn
  have hp := (valid_iff f).1 hv
  have h18 := pow_big hb
  refine (widen_any f k b p v w hT hD hv hR hk hl hb).mono ?_
  rintro e w' ⟨⟨g, rfl, _, hB⟩, h3⟩
  have h := hB.reads (valL_bd hp) (by rw [valL_len]; omega) (2 ^ (k + b))
  rw [valL_len, hV] at h
  exact ⟨_, rfl, h, h3⟩
end Go.Proofs.YtiipgbobgeejmaaDoor

/- The examples that every law of the fourth stage asks besides: the call returns true. -/
namespace Go.Proofs.YtiipgbobgeejmaaDoor
open Go.RowKit
set_option linter.unusedVariables false

theorem Reads.alloc {w : World} {v : Value} {l : List Nat} (h : Reads w v l) (o : Obj) : Reads (w.alloc o) v l := by
  obtain ⟨h1, h2, h3⟩ := h
  refine ⟨h1, h2, ?_⟩
  rcases h3 with h3 | ⟨b, off, cap, rfl, hc⟩
  · exact .inl h3
  · refine .inr ⟨b, off, cap, rfl, fun i hi => ?_⟩
    rw [World.cell?_alloc_old _ _ _ (Nat.ne_of_lt (cell_size (hc i hi)))]
    exact hc i hi

end Go.Proofs.YtiipgbobgeejmaaDoor
