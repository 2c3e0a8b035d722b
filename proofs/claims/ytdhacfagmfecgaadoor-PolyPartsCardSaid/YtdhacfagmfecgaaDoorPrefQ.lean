/- The document's own answers for polynomials: Vanish: what each call returns. -/
import Derived.Test.YtdhacfagmfecgaaDoorPrefP
import Derived.Test.YtdhacfagmfecgaaDoorProtm
namespace Go.Proofs.YtdhacfagmfecgaaDoor
open Go.RowKit
set_option linter.unusedVariables false

theorem conv_two (a : List Nat) (c t : Nat) : conv a [c, 1] t = a.getD t 0 * c + (if t = 0 then 0 else a.getD (t - 1) 0) := by
  unfold conv
  cases t with
  | zero => show S _ 0 + _ = _; unfold S; simp
  | succ s =>
    show S (fun i => a.getD i 0 * [c, 1].getD (s + 1 - i) 0) s + a.getD s 0 * [c, 1].getD (s + 1 - s) 0 + a.getD (s + 1) 0 * [c, 1].getD (s + 1 - (s + 1)) 0 = _
    rw [S_zero (fun i hi => by rw [getD_over (l := [c, 1]) (by simp; omega)]; simp), Nat.add_sub_cancel_left, Nat.sub_self, if_neg (by omega), Nat.add_sub_cancel]
    show 0 + a.getD s 0 * 1 + a.getD (s + 1) 0 * c = _
    omega
theorem mod_back (p y : Nat) (hp : 0 < p) : p - y % p + y = p * (y / p + 1) := by
  have h1 := Nat.mod_lt y hp
  have h2 := Nat.div_add_mod y p
  rw [Nat.mul_add, Nat.mul_one]; omega
theorem root_coef {f : Int} (hp : 0 < pOf f) (u b x : Nat) : (u * subF f 0 x + b) % pOf f = subF f b (mulF f x u) := by
  rw [subF_pos _ _ _ hp, subF_pos _ _ _ hp, mulF_pos _ _ _ hp, Nat.mod_mod, Nat.zero_add]
  refine add_cancel_mod (c := x * u) ?_
  have e2 : b + (pOf f - x * u % pOf f) + x * u = b + pOf f * (x * u / pOf f + 1) := by rw [Nat.add_assoc, mod_back _ _ hp]
  rw [e2, Nat.add_mul_mod_self_left]
  have e1 : u * (pOf f - x % pOf f) + b + x * u = b + pOf f * (u * (x / pOf f + 1)) := by
    rw [Nat.add_right_comm, Nat.mul_comm x u, ← Nat.mul_add, mod_back _ _ hp, Nat.add_comm]; congr 1; ac_rfl
  have e3 : (u * ((pOf f - x % pOf f) % pOf f) + b + x * u) % pOf f = (u * (pOf f - x % pOf f) + b + x * u) % pOf f := by
    rw [Nat.add_assoc, Nat.add_mod, Nat.mul_mod_mod, ← Nat.add_mod, ← Nat.add_assoc]
  rw [e3, e1, Nat.add_mul_mod_self_left]
theorem vanL_lt' {f : Int} (hv : validB f = true) (xs : List Nat) : ∀ y ∈ vanL f xs, y < pOf f := by
  have hp := (valid_iff f).1 hv
  have hb := big f hv
  rcases snoc_cases xs with rfl | ⟨l, c, rfl⟩
  · intro y hy
    have : vanL f [] = [1] := rfl
    rw [this] at hy; simp at hy; omega
  · intro y hy
    rw [vanL_snoc] at hy
    unfold rootL at hy
    obtain ⟨i, _, rfl⟩ := List.mem_map.1 hy
    exact subF_lt _ _ _ hp
theorem vanL_id {f : Int} (hv : validB f = true) (xs : List Nat) : normF f (vanL f xs) = vanL f xs := by
  refine normF_id ((valid_iff f).1 hv) (.inr ?_) (vanL_lt' hv xs)
  rw [vanL_len, Nat.add_sub_cancel, vanL_top f xs hv]; omega
theorem van_step {f : Int} (hv : validB f = true) (xs : List Nat) (x : Nat) : mulL f (vanL f xs) [subF f 0 x, 1] = vanL f (xs ++ [x]) := by
  have hp := (valid_iff f).1 hv
  have hb := big f hv
  have h2 : normF f [subF f 0 x, 1] = [subF f 0 x, 1] := normF_id hp (.inr (by simp)) (fun y hy => by
    simp at hy; rcases hy with rfl | rfl
    · exact subF_lt _ _ _ hp
    · omega)
  rw [vanL_snoc]
  unfold mulL
  rw [vanL_id hv, h2, vanL_len, if_neg (by simp)]
  refine list_ext (by rw [rootL_len, vanL_len]; simp) fun t ht => ?_
  simp only [List.length_map, List.length_range] at ht
  rw [getD_range, if_pos ht, conv_two, root_coef hp]
  unfold rootL
  have hT : t < (vanL f xs).length + 1 := by rw [vanL_len]; simpa using ht
  rw [getD_range, if_pos hT]

end Go.Proofs.YtdhacfagmfecgaaDoor
