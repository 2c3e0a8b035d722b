/- Package transform: Values: what the call returns. -/
import Derived.Test.YtgkegpnpooeghaaDoorTwalkE
import Derived.Test.YtgkegpnpooeghaaDoorPwalkF
namespace Go.Proofs.YtgkegpnpooeghaaDoor
open Go.RowKit
set_option linter.unusedVariables false

theorem values_arg (f k : Int) (s : Nat) (v : Value) (w : World) (hT : Tab w) (hs : s ≤ 18446744073709551615) (hb : shB f s = false) :
    Calls Tryd.prog 12 #[.int .i64 f, .int .i64 k, .int .u64 (s : Int), v] w fun e w' => e = .returned (.tuple #[.slice none 0 0, .int .i64 1]) ∧ w = w' := by
  have HB := Lib.hid hb
  clear hb
  go_enter Tryd.func12, Tryd.ntmps12
  go_wp2_with (go_at_call 35; refine (isShift_any f s _ hT hs).mono ?_; rintro e w' ⟨rfl, rfl⟩; rw [HB.out])
  go_ret2
  exact ⟨rfl, rfl⟩
theorem values_range (f k : Int) (s : Nat) (v : Value) (w : World) (hT : Tab w) (hs : s ≤ 18446744073709551615) (hb : shB f s = true) (hk : k < 0 ∨ (grF f : Int) < k) :
    Calls Tryd.prog 12 #[.int .i64 f, .int .i64 k, .int .u64 (s : Int), v] w fun e w' => e = .returned (.tuple #[.slice none 0 0, .int .i64 2]) ∧ On w w' := by
  have HB := Lib.hid hb
  clear hb
  have hg := grF_le f
  have hc : k < 0 ∨ (0 ≤ k ∧ (grF f : Int) < k) := by omega
  clear hk
  rcases hc with h | ⟨h1, h2⟩
  all_goals
    go_enter Tryd.func12, Tryd.ntmps12
    go_wp2_with (first
      | (go_at_call 35; refine (isShift_any f s _ hT hs).mono ?_; rintro e w' ⟨rfl, rfl⟩; rw [HB.out])
      | (go_at_call 36; refine (greatest_any f _ _ (On.refl hT)).mono ?_; rintro e w1 ⟨rfl, hW1⟩))
    go_ret2
    first | exact ⟨rfl, On.refl hT⟩ | exact ⟨rfl, hW1⟩
/-- The values at the points of a coset. -/
def valL (f : Int) (k : Nat) (s : Nat) (p : List Nat) : List Nat := fftL f k (shiftF f p s)
theorem shiftF_bd {f : Int} {l : List Nat} {s : Nat} : ∀ x ∈ shiftF f l s, x ≤ 18446744073709551615 := fun x hx => by
  unfold shiftF at hx; have := normF_le f _ x hx; omega
theorem shiftF_len (f : Int) (l : List Nat) (s : Nat) : (shiftF f l s).length ≤ l.length := by
  unfold shiftF; have := normF_len f ((List.range l.length).map fun i => mulF f (l.getD i 0) (powF f s i)); simpa using this
set_option maxHeartbeats 400000 in
theorem values_any (f : Int) (k : Nat) (s : Nat) (p : List Nat) (v : Value) (w : World) (hT : Tab w) (hs : s ≤ 18446744073709551615) (hb : shB f s = true) (hk : k ≤ grF f) (hR : Reads w v p) (hL : p.length ≤ 17592186044416) :
    Calls Tryd.prog 12 #[.int .i64 f, .int .i64 (k : Int), .int .u64 (s : Int), v] w fun e w' =>
      (2 ^ k < (shiftF f p s).length → e = .returned (.tuple #[.slice none 0 0, .int .i64 3])) ∧
      ((shiftF f p s).length ≤ 2 ^ k → ∃ g, e = .returned (.tuple #[.slice (some ⟨g, 0, none⟩) (2 ^ k) (2 ^ k), .int .i64 0]) ∧ w.heap.size ≤ g ∧ Blk g w' (valL f k s p)) ∧ On w w' := by
  have hv : validB f = true := by unfold shB at hb; simp at hb; exact hb.1
  have HB := Lib.hid hb
  clear hb
  have hg := grF_le f
  have HSH := Lib.hid (shift_any f p s v)
  have HAR := Lib.hid (fun l u w h1 h2 h3 => atRoots_any f k l u w h1 hv hk h2 h3)
  have HBD := Lib.hid (shiftF_bd (f := f) (l := p) (s := s))
  have hql := shiftF_len f p s
  unfold valL
  generalize shiftF f p s = q at *
  have HVL : Hid (fftL f k q = fftL f k q) := rfl
  have h23 : 2 ^ k ≤ 2 ^ 18 := Nat.pow_le_pow_right (by omega) (by omega)
  obtain ⟨N, hN⟩ : ∃ N, N = 2 ^ k := ⟨_, rfl⟩
  have hpw : (2 : Int) ^ k = (N : Int) := by rw [hN, Int.natCast_pow]; rfl
  rw [← hN] at h23 HAR
  rw [← hN]
  have hNb : N ≤ 262144 := by omega
  clear hN h23
  have HR := Lib.hid hR
  clear hR
  go_enter Tryd.func12, Tryd.ntmps12
  go_wp2_with (first
    | (go_at_call 35; refine (isShift_any f s _ hT hs).mono ?_; rintro e w' ⟨rfl, rfl⟩; rw [HB.out])
    | (go_at_call 36; refine (greatest_any f _ _ (On.refl hT)).mono ?_; rintro e w1 ⟨rfl, hW1⟩))
  refine (HSH.out _ hW1.tab (HR.out.on hW1) hL hs).mono ?_
  rintro e w2 ⟨⟨v2, rfl, hF⟩, hO⟩
  obtain ⟨a2, rfl⟩ := fre_shape hF
  have HW2 := Lib.hid (hW1.trans hO)
  have HRQ := Lib.hid (fun h : q.length ≤ 262144 => hF.reads HBD.out (by omega))
  clear hF hO hW1
  by_cases hc : N < q.length
  · go_wp2
    go_ret2
    exact ⟨fun _ => rfl, fun h => absurd h (by omega), HW2.out⟩
  · go_wp2_with (go_at_call 38; refine (HAR.out q _ _ HW2.out.tab (HRQ.out (by omega)) (by omega)).mono ?_; rintro e w3 ⟨⟨g, rfl, hg2, hB⟩, hO⟩)
    go_ret2
    exact ⟨fun h => absurd h hc, fun _ => ⟨g, rfl, by have := HW2.out.size; omega, hB⟩, HW2.out.trans hO⟩
end Go.Proofs.YtgkegpnpooeghaaDoor
