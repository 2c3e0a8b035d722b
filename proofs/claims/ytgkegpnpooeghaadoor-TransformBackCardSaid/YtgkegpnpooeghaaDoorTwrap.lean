/- Contracts of package transform at lists that are known, each with what it leaves. -/
import Derived.Test.YtgkegpnpooeghaaDoorTsame
import Derived.Test.YtgkegpnpooeghaaDoorTwalkI
namespace Go.Proofs.YtgkegpnpooeghaaDoor
open Go.RowKit
set_option linter.unusedVariables false

theorem heap_at (w : World) (o : Obj) (n : Nat) (h : n = w.heap.size) : (w.alloc o).heap[n]? = some o := by subst h; show (w.heap.push o)[w.heap.size]? = some o; simp
theorem reads_at (w : World) (B : Nat) (l : List Nat) (cap : Nat) (c : Array Value) (hB : w.heap[B]? = some (.cells c 22 (0, 0))) (hc : c.toList = nums l) (hU : ∀ x ∈ l, x ≤ 18446744073709551615) (hL : l.length ≤ 9223372036854775807) : Reads w (.slice (some ⟨B, 0, none⟩) l.length cap) l := by
  refine ⟨hU, hL, .inr ⟨B, 0, cap, rfl, fun i hi => ?_⟩⟩
  have h := nums_get l i hi
  rw [← hc] at h
  unfold World.cell?
  rw [hB]
  simpa using h
theorem reads_new (w : World) (l : List Nat) (cap : Nat) (c : Array Value) (B : Nat) (hB : B = w.heap.size) (hc : c.toList = nums l) (hU : ∀ x ∈ l, x ≤ 18446744073709551615) (hL : l.length ≤ 9223372036854775807) : Reads (w.alloc (.cells c 22)) (.slice (some ⟨B, 0, none⟩) l.length cap) l :=
  reads_at _ _ l cap c (heap_at _ _ _ hB) hc hU hL
theorem w_same (l m : List Nat) (v v' : Value) (w : World) (b : Bool) (hb : decide (l = m) = b) (hT : Tab w) (h : Reads w v l) (h' : Reads w v' m) :
    Calls Tryd.prog 24 #[v, v'] w fun r w' => r = .returned (.bool b) ∧ On w w' :=
  (same_any l m v v' w h h').mono fun r w' ⟨h2, n, h3⟩ => ⟨by rw [h2, hb], by rw [h3]; exact (On.refl hT).drewN n⟩
theorem valL_bd {f : Int} {k s : Nat} {p : List Nat} (hp : 0 < pOf f) : ∀ x ∈ valL f k s p, x ≤ 18446744073709551615 := fun x hx => by
  have := fftL_lt f k (shiftF f p s) hp x hx; have := pOf_le f; omega
theorem valL_len (f : Int) (k s : Nat) (p : List Nat) : (valL f k s p).length = 2 ^ k := fftL_len _ _ _
theorem coefL_bd {f : Int} {k s : Nat} {p : List Nat} (hp : 0 < pOf f) : ∀ x ∈ coefL f k s p, x ≤ 18446744073709551615 := fun x hx => by
  have := coefL_lt f k s p hp x hx; have := pOf_le f; omega
theorem pow_big {f : Int} {k : Nat} (h : k ≤ grF f) : 2 ^ k ≤ 262144 := by
  have h1 := grF_le f
  have h2 := Nat.pow_le_pow_right (show 0 < 2 by omega) (show k ≤ 18 by omega)
  omega
theorem w_values (f : Int) (k s : Nat) (p : List Nat) (v : Value) (w : World) (n : Nat) (V : List Nat) (hn : n = 2 ^ k) (hV : valL f k s p = V) (hT : Tab w) (hs : s ≤ 18446744073709551615) (hb : shB f s = true) (hk : k ≤ grF f) (hR : Reads w v p) (hL : p.length ≤ 1000000000) (hl : (shiftF f p s).length ≤ 2 ^ k) :
    Calls Tryd.prog 12 #[.int .i64 f, .int .i64 (k : Int), .int .u64 (s : Int), v] w fun e w' => ∃ a, e = .returned (.tuple #[.slice a n n, .int .i64 0]) ∧ Reads w' (.slice a n n) V ∧ On w w' := by
  subst hn
  have hv : validB f = true := by unfold shB at hb; simp at hb; exact hb.1
  have hp := (valid_iff f).1 hv
  have h18 := pow_big hk
  refine (values_any f k s p v w hT hs hb hk hR (by omega)).mono ?_
  rintro e w' ⟨-, h2, h3⟩
  obtain ⟨g, rfl, _, hB⟩ := h2 hl
  have h := hB.reads (valL_bd hp) (by rw [valL_len]; omega) (2 ^ k)
  rw [valL_len, hV] at h
  exact ⟨_, rfl, h, h3⟩
theorem w_values_limit (f : Int) (k s : Nat) (p : List Nat) (v : Value) (w : World) (hT : Tab w) (hs : s ≤ 18446744073709551615) (hb : shB f s = true) (hk : k ≤ grF f) (hR : Reads w v p) (hL : p.length ≤ 1000000000) (hl : 2 ^ k < (shiftF f p s).length) :
    Calls Tryd.prog 12 #[.int .i64 f, .int .i64 (k : Int), .int .u64 (s : Int), v] w fun e w' => e = .returned (.tuple #[.slice none 0 0, .int .i64 3]) ∧ On w w' :=
  (values_any f k s p v w hT hs hb hk hR (by omega)).mono fun e w' ⟨h1, _, h3⟩ => ⟨h1 hl, h3⟩
theorem w_values_arg (f k : Int) (s : Nat) (v : Value) (w : World) (hT : Tab w) (hs : s ≤ 18446744073709551615) (hb : shB f s = false) :
    Calls Tryd.prog 12 #[.int .i64 f, .int .i64 k, .int .u64 (s : Int), v] w fun e w' => e = .returned (.tuple #[.slice none 0 0, .int .i64 1]) ∧ On w w' :=
  (values_arg f k s v w hT hs hb).mono fun e w' ⟨h1, h2⟩ => ⟨h1, h2 ▸ On.refl hT⟩
theorem w_coefs (f : Int) (k s : Nat) (p : List Nat) (v : Value) (w : World) (n : Nat) (V : List Nat) (hn : n = 2 ^ k) (hV : coefL f k s p = V) (hT : Tab w) (hD : TabD w) (hs : s ≤ 18446744073709551615) (hb : shB f s = true) (hk : k ≤ grF f) (hR : Reads w v p) (hl : p.length = 2 ^ k) :
    Calls Tryd.prog 16 #[.int .i64 f, .int .u64 (s : Int), v] w fun e w' => ∃ a, e = .returned (.tuple #[.slice a n n, .int .i64 0]) ∧ Reads w' (.slice a n n) V ∧ On w w' := by
  subst hn
  have hv : validB f = true := by unfold shB at hb; simp at hb; exact hb.1
  have hp := (valid_iff f).1 hv
  have h18 := pow_big hk
  refine (coefs_any f k s p v w hT hD hs hb hk hR hl).mono ?_
  rintro e w' ⟨⟨g, rfl, _, hB⟩, h3⟩
  have h := hB.reads (coefL_bd hp) (by rw [coefL_len]; omega) (2 ^ k)
  rw [coefL_len, hV] at h
  exact ⟨_, rfl, h, h3⟩
theorem w_mult (f : Int) (l m : List Nat) (v v' : Value) (w : World) (M : List Nat) (n : Nat) (hM : mulL f l m = M) (hn : M.length = n) (hT : Tab w) (hv : validB f = true) (hR : Reads w v l) (hR' : Reads w v' m) (hl : l.length ≤ 1000000000) (hl' : m.length ≤ 1000000000) (hlim : (normF f l).length + (normF f m).length - 1 ≤ 2 ^ grF f) :
    Calls Tryd.prog 20 #[.int .i64 f, v, v'] w fun e w' => ∃ a, e = .returned (.tuple #[.slice a n n, .int .i64 0]) ∧ Reads w' (.slice a n n) M ∧ On w w' := by
  have hp := (valid_iff f).1 hv
  have ha := normF_len f l
  have hb := normF_len f m
  have hU : ∀ x ∈ mulL f l m, x ≤ 18446744073709551615 := fun x hx => by have := mulL_lt f l m hp x hx; have := pOf_le f; omega
  refine (mult_any f l m v v' w hT hv hR hR' (by omega) (by omega)).mono ?_
  rintro e w' ⟨h1, -, h2, h3⟩
  by_cases h0 : (normF f l).length = 0 ∨ (normF f m).length = 0
  · have h4 := h1 h0
    have h5 := mulL_len0 h0
    rw [hM] at h5
    subst h5
    subst hn
    exact ⟨none, h4, Reads.nil _ _ _, h3⟩
  · obtain ⟨u, h4, h5⟩ := h2 hlim (by omega) (by omega)
    obtain ⟨a, rfl⟩ := fre_shape h5
    have h6 := h5.reads hU (by rw [mulL_len h0]; omega)
    rw [hM] at h4 h6
    subst hn
    exact ⟨a, h4, h6, h3⟩
theorem w_mult_range (f : Int) (l m : List Nat) (v v' : Value) (w : World) (hT : Tab w) (hv : validB f = true) (hR : Reads w v l) (hR' : Reads w v' m) (hl : l.length ≤ 1000000000) (hl' : m.length ≤ 1000000000) (hlim : 2 ^ grF f < (normF f l).length + (normF f m).length - 1) (h0 : 0 < (normF f l).length) (h1 : 0 < (normF f m).length) :
    Calls Tryd.prog 20 #[.int .i64 f, v, v'] w fun e w' => e = .returned (.tuple #[.slice none 0 0, .int .i64 2]) ∧ On w w' :=
  (mult_any f l m v v' w hT hv hR hR' hl hl').mono fun e w' ⟨_, h2, _, h3⟩ => ⟨h2 hlim h0 h1, h3⟩
theorem w_widen (f : Int) (k b : Nat) (p : List Nat) (v : Value) (w : World) (n : Nat) (V : List Nat) (hn : n = 2 ^ (k + b)) (hV : valL f (k + b) (gOf f) (ifftL f k p) = V) (hT : Tab w) (hD : TabD w) (hv : validB f = true) (hk : k ≤ grF f) (hR : Reads w v p) (hl : p.length = 2 ^ k) (hb : k + b ≤ grF f) :
    Calls Tryd.prog 18 #[.int .i64 f, v, .int .i64 (b : Int)] w fun e w' => ∃ a, e = .returned (.tuple #[.slice a n n, .int .i64 0]) ∧ Reads w' (.slice a n n) V ∧ On w w' := by
  subst hn
  have hp := (valid_iff f).1 hv
  have h18 := pow_big hb
  refine (widen_any f k b p v w hT hD hv hR hk hl hb).mono ?_
  rintro e w' ⟨⟨g, rfl, _, hB⟩, h3⟩
  have h := hB.reads (valL_bd hp) (by rw [valL_len]; omega) (2 ^ (k + b))
  rw [valL_len, hV] at h
  exact ⟨_, rfl, h, h3⟩
end Go.Proofs.YtgkegpnpooeghaaDoor
