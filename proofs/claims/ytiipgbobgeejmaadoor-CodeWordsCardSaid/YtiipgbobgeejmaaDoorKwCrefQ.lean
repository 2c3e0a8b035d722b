/- The document's own answers for polynomials: Vanish: what each call returns. -/
import Derived.Test.YtiipgbobgeejmaaDoorKwCrefT
import Derived.Test.YtiipgbobgeejmaaDoorKb05
namespace Go.Proofs.YtiipgbobgeejmaaDoor
open Go.RowKit
set_option linter.unusedVariables false

theorem conv_two (a : List Nat) (c t : Nat) : conv a [c, 1] t = a.getD t 0 * c + (if t = 0 then 0 else a.getD (t - 1) 0) := by
  unfold conv
  cases t with
  | zero => show S _ 0 + _ = _; unfold S; simp
  | succ s =>
    show S (fun i => a.getD i 0 * [c, 1].getD (s + 1 - i) 0) s + a.getD s 0 * [c, 1].getD (s + 1 - s) 0 + a.getD (s + 1) 0 * [c, 1].getD (s + 1 - (s + 1)) 0 = _
    rw [S_zero (fun i hi => by rw [getD_over (l := [c, 1]) (by simp; omega)]; simp), Nat.add_sub_cancel_left, Nat.sub_self, if_neg (by omega), Nat.add_sub_cancel]
    show 0 + a.getD s 0 * 1 + a.getD (s + 1) 0 * c = _
    omega
theorem mod_back (p y : Nat) (hp : 0 < p) : p - y % p + y = p * (y / p + 1) := by
  have h1 := Nat.mod_lt y hp
  have h2 := Nat.div_add_mod y p
  rw [Nat.mul_add, Nat.mul_one]; omega
theorem root_coef {f : Int} (hp : 0 < pOf f) (u b x : Nat) : (u * subF f 0 x + b) % pOf f = subF f b (mulF f x u) := by
  rw [subF_pos _ _ _ hp, subF_pos _ _ _ hp, mulF_pos _ _ _ hp, Nat.mod_mod, Nat.zero_add]
  refine add_cancel_mod (c := x * u) ?_
  have e2 : b + (pOf f - x * u % pOf f) + x * u = b + pOf f * (x * u / pOf f + 1) := by rw [Nat.add_assoc, mod_back _ _ hp]
  rw [e2, Nat.add_mul_mod_self_left]
  have e1 : u * (pOf f - x % pOf f) + b + x * u = b + pOf f * (u * (x / pOf f + 1)) := by
    rw [Nat.add_right_comm, Nat.mul_comm x u, ← Nat.mul_add, mod_back _ _ hp, Nat.add_comm]; congr 1; ac_rfl
  have e3 : (u * ((pOf f - x % pOf f) % pOf f) + b + x * u) % pOf f = (u * (pOf f - x % pOf f) + b + x * u) % pOf f := by
    rw [Nat.add_assoc, Nat.add_mod, Nat.mul_mod_mod, ← Nat.add_mod, ← Nat.add_assoc]
  rw [e3, e1, Nat.add_mul_mod_self_left]
theorem vanL_lt' {f : Int} (hv : validB f = true) (xs : List Nat) : ∀ y ∈ vanL f xs, y < pOf f := by
  have hp := (valid_iff f).1 hv
  have hb := big f hv
  rcases snoc_cases xs with rfl | ⟨l, c, rfl⟩
  · intro y hy
    have : vanL f [] = [1] := rfl
    rw [this] at hy; simp at hy; omega
  · intro y hy
    rw [vanL_snoc] at hy
    unfold rootL at hy
    obtain ⟨i, _, rfl⟩ := List.mem_map.1 hy
    exact subF_lt _ _ _ hp
theorem vanL_id {f : Int} (hv : validB f = true) (xs : List Nat) : normF f (vanL f xs) = vanL f xs := by
  refine normF_id ((valid_iff f).1 hv) (.inr ?_) (vanL_lt' hv xs)
  rw [vanL_len, Nat.add_sub_cancel, vanL_top f xs hv]; omega
theorem van_step {f : Int} (hv : validB f = true) (xs : List Nat) (x : Nat) : mulL f (vanL f xs) [subF f 0 x, 1] = vanL f (xs ++ [x]) := by
  have hp := (valid_iff f).1 hv
  have hb := big f hv
  have h2 : normF f [subF f 0 x, 1] = [subF f 0 x, 1] := normF_id hp (.inr (by simp)) (fun y hy => by
    simp at hy; rcases hy with rfl | rfl
    · exact subF_lt _ _ _ hp
    · omega)
  rw [vanL_snoc]
  unfold mulL
  rw [vanL_id hv, h2, vanL_len, if_neg (by simp)]
  refine list_ext (by rw [rootL_len, vanL_len]; simp) fun t ht => ?_
  simp only [List.length_map, List.length_range] at ht
  rw [getD_range, if_pos ht, conv_two, root_coef hp]
  unfold rootL
  have hT : t < (vanL f xs).length + 1 := by rw [vanL_len]; simpa using ht
  rw [getD_range, if_pos hT]

set_option maxHeartbeats 1000000 in
theorem rvanish_any (f : Int) (xs : List Nat) (v : Value) (w : World) (hT : Tab w) (hv : validB f = true) (hR : Reads w v xs) (hl : xs.length ≤ 900) :
    Calls Tryd.prog 57 #[.int .i64 f, v] w fun e w' => (∃ u, e = .returned (.tuple #[u, .int .i64 0]) ∧ Reads w' u (vanL f xs)) ∧ On w w' := by
  obtain ⟨a, cap, rfl⟩ := hR.shape
  have HV := Lib.hid hv; clear hv
  have HR := Lib.hid hR; have HT := Lib.hid hT
  have HSN : Hid (∀ k, k < xs.length → mulL f (vanL f (xs.take k)) [subF f 0 (xs.getD k 0), 1] = vanL f (xs.take (k + 1))) := fun k hk => by rw [take_snoc xs k hk]; exact van_step HV.out _ _
  have hlim : ¬ (1024 < (xs.length : Int)) := by omega
  have HFN : Hid (xs.take xs.length = xs) := List.take_length
  have HU := Lib.hid hR.1
  clear hR hT
  generalize hn : xs.length = n at *
  have HNL := Lib.hid hn; clear hn
  have H1 : Hid (Reads (w.alloc (.cells #[.int .u64 1] 22)) (.slice (some ⟨w.heap.size, 0, none⟩) 1 1) [1]) := reads_new w [1] 1 _ _ rfl rfl (by decide) (by decide)
  go_enter Tryd.func57, Tryd.ntmps57
  go_wp2_with (go_at_call 33; refine (rvalid_any _ _).mono ?_; rintro e w' ⟨rfl, rfl⟩; rw [HV.out])
  go_loopw [6, 7] (fun vp vi wr => ∃ (k : Nat) (ap : Option Addr) (cp : Nat), k ≤ n ∧ vi = .int .i64 (k : Int) ∧ vp = .slice ap (k + 1) cp ∧ Hid (On w wr ∧ Reads wr (.slice ap (k + 1) cp) (vanL f (xs.take k)))) (fun _ vi _ => n - (intOf vi).toNat)
  case atStart => exact ⟨0, _, 1, Nat.zero_le _, rfl, rfl, (On.refl HT.out).alloc _, H1.out⟩
  case round =>
    rename World => wr
    obtain ⟨k, ap, cp, hk, rfl, rfl, HI⟩ := hrel
    by_cases hlt : k < n
    · obtain ⟨-, hcx⟩ := reads_opt (HR.out.on HI.out.1)
      obtain ⟨bX, oX, rfl, hcell⟩ := hcx k (by rw [HNL.out]; exact hlt)
      have hxb := HU.out _ (getD_mem xs k (by rw [HNL.out]; exact hlt))
      have HS := Lib.hid (HSN.out k hlt)
      have HVL := Lib.hid (vanL_len f (xs.take (k + 1)))
      have HVK := Lib.hid (vanL_len f (xs.take k))
      clear hcx
      generalize xs.getD k 0 = x at *
      have hsb := subF_le f 0 x
      have HNG := Lib.hid (rneg_any f x wr hxb)
      generalize subF f 0 x = c at *
      go_wp2_with fail
      refine HNG.out.mono ?_
      rintro e w' ⟨rfl, q, rfl⟩
      have hOa : On wr ((wr.drewN q).alloc (.cells #[.int .u64 (c : Int), .int .u64 1] 22)) := ((On.refl HI.out.1.tab).drewN q).alloc _
      have hRm : Reads ((wr.drewN q).alloc (.cells #[.int .u64 (c : Int), .int .u64 1] 22)) (.slice (some ⟨wr.heap.size, 0, none⟩) 2 2) [c, 1] := reads_new (wr.drewN q) [c, 1] 2 _ _ rfl rfl (fun y hy => by simp at hy; omega) (by simp)
      have HMU := Lib.hid (rmulp_any f (vanL f (xs.take k)) [c, 1] _ _ _ hOa.tab HV.out (HI.out.2.on hOa) hRm (by rw [HVK.out, List.length_take]; omega) (by simp))
      have HOa := Lib.hid hOa
      clear hOa hRm
      go_wp2_with fail
      refine HMU.out.mono ?_
      rintro e w3 ⟨⟨u, rfl, hF⟩, hO1⟩
      rw [HS.out] at hF
      obtain ⟨au, rfl⟩ := fre_shape hF
      have hr := hF.reads (fun y hy => by have := vanL_le f _ y hy; omega) (by rw [HVL.out, List.length_take]; omega)
      have hll : (vanL f (xs.take (k + 1))).length = k + 1 + 1 := by rw [HVL.out, List.length_take, HNL.out]; omega
      rw [hll] at hr ⊢
      have HRF := Lib.hid hr
      have HOF := Lib.hid ((HI.out.1.trans HOa.out).trans hO1)
      clear hF hr hO1 hll
      go_wp2
      go_roundw
      case rel => exact ⟨k + 1, au, _, by omega, by go_num, rfl, HOF.out, HRF.out⟩
      case measure => simp [intOf]; omega
    · obtain rfl : k = n := by omega
      have hfin := HI.out.2
      rw [HFN.out] at hfin
      have HF := Lib.hid hfin
      have HO := Lib.hid HI.out.1
      clear hfin HI
      go_wp2
      go_ret2
      exact ⟨⟨_, rfl, HF.out⟩, HO.out⟩
end Go.Proofs.YtiipgbobgeejmaaDoor
