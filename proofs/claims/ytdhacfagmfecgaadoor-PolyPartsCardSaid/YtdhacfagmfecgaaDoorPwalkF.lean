/- Package poly: Mul: what the call returns. -/
import Derived.Test.YtdhacfagmfecgaaDoorPwalkE
namespace Go.Proofs.YtdhacfagmfecgaaDoor
open Go.RowKit
set_option linter.unusedVariables false

/-- The product, in normal form. -/
def mulL (f : Int) (l m : List Nat) : List Nat :=
  if (normF f l).length = 0 ∨ (normF f m).length = 0 then [] else (List.range ((normF f l).length + (normF f m).length - 1)).map fun k => conv (normF f l) (normF f m) k % pOf f
theorem mulL_getD (f : Int) (l m : List Nat) (k : Nat) : (mulL f l m).getD k 0 = conv (normF f l) (normF f m) k % pOf f := by
  unfold mulL
  split
  · rename_i h
    rcases h with h | h
    · rw [List.length_eq_zero_iff.1 h, conv_nil, Nat.zero_mod]; rfl
    · rw [List.length_eq_zero_iff.1 h, conv_nil_right, Nat.zero_mod]; rfl
  · rw [getD_range]
    split
    · rfl
    · rw [conv_over _ _ _ (by omega), Nat.zero_mod]
theorem prime_mul {p a b : Nat} (hp : IsP p) (ha : a % p ≠ 0) (hb : b % p ≠ 0) : a * b % p ≠ 0 := by
  intro h
  have hd : p ∣ a * b := Nat.dvd_of_mod_eq_zero h
  have := Nat.Coprime.dvd_of_dvd_mul_left (Nat.Coprime.symm (hp.coprime ha)) hd
  exact hb (Nat.mod_eq_zero_of_dvd this)
theorem norm_last {f : Int} {l : List Nat} (h : 0 < pOf f) (h0 : 0 < (normF f l).length) : (normF f l).getD ((normF f l).length - 1) 0 % pOf f ≠ 0 := by
  rcases normF_norm f l with h1 | h1
  · rw [h1] at h0; simp at h0
  · rw [Nat.mod_eq_of_lt (getD_lt h (normF_lt f l h) _)]; exact h1
theorem mulL_norm (f : Int) (l m : List Nat) (hv : validB f = true) : Norm (mulL f l m) := by
  have h := (valid_iff f).1 hv
  by_cases h0 : (normF f l).length = 0 ∨ (normF f m).length = 0
  · left; unfold mulL; rw [if_pos h0]
  · right
    have hlen : (mulL f l m).length = (normF f l).length + (normF f m).length - 1 := by unfold mulL; rw [if_neg h0]; simp
    rw [mulL_getD, hlen, show (normF f l).length + (normF f m).length - 1 - 1 = (normF f l).length + (normF f m).length - 2 by omega, conv_top _ _ (by omega) (by omega)]
    exact prime_mul (isP_field f hv) (norm_last h (by omega)) (norm_last h (by omega))
theorem mulL_lt (f : Int) (l m : List Nat) (h : 0 < pOf f) : ∀ x ∈ mulL f l m, x < pOf f := all_lt_of_getD fun i => by rw [mulL_getD]; exact Nat.mod_lt _ h

theorem mul_no (f : Int) (l m : List Nat) (v v' : Value) (w : World) (hT : Tab w) (hv : validB f = false) :
    Calls Tryd.prog 21 #[.int .i64 f, v, v'] w fun e w' => e = .returned (.tuple #[.slice none 0 0, .int .i64 1]) ∧ w = w' := by
  have HV := Lib.hid hv; clear hv
  go_enter Tryd.func21, Tryd.ntmps21
  go_wp2_with (go_at_call 45; refine (valid_any _ _).mono ?_; rintro e w' ⟨rfl, rfl⟩; rw [HV.out])
  go_ret2
  exact ⟨rfl, rfl⟩

theorem fre_shape {B : Nat} {w : World} {v : Value} {l : List Nat} (h : Fre B w v l) : ∃ a, v = .slice a l.length l.length := by
  rcases h with ⟨rfl, rfl⟩ | ⟨g, rfl, _⟩
  · exact ⟨none, rfl⟩
  · exact ⟨_, rfl⟩

set_option maxHeartbeats 800000 in
theorem mul_any' (f : Int) (l m : List Nat) (v v' : Value) (w : World) (hT : Tab w) (hv : validB f = true) (hR : Reads w v l) (hR' : Reads w v' m) (hL : l.length ≤ 17592186044416) (hL' : m.length ≤ 17592186044416) :
    Calls Tryd.prog 21 #[.int .i64 f, v, v'] w fun e w' =>
      ((normF f l).length + (normF f m).length ≤ 32769 → ∃ u, e = .returned (.tuple #[u, .int .i64 0]) ∧ Fre w.heap.size w' u (mulL f l m)) ∧
      (32769 < (normF f l).length + (normF f m).length → 0 < (normF f l).length → 0 < (normF f m).length → e = .returned (.tuple #[.slice none 0 0, .int .i64 3])) ∧ On w w' := by
  have hp := (valid_iff f).1 hv
  have HV := Lib.hid hv
  have hla := normF_len f l
  have hlb := normF_len f m
  have HA := Lib.hid (normF_lt f l hp)
  have HB := Lib.hid (normF_lt f m hp)
  have HUA := Lib.hid (normF_bd (f := f) (l := l))
  have HUB := Lib.hid (normF_bd (f := f) (l := m))
  have HR := Lib.hid hR
  have HR' := Lib.hid hR'
  have hmul : mulL f l m = mulL f l m := rfl
  unfold mulL at hmul
  have HM : Hid ((normF f l).length = 0 ∨ (normF f m).length = 0 → mulL f l m = []) := fun h => by unfold mulL; rw [if_pos h]
  have HM2 : Hid (¬ ((normF f l).length = 0 ∨ (normF f m).length = 0) → mulL f l m = (List.range ((normF f l).length + (normF f m).length - 1)).map fun k => conv (normF f l) (normF f m) k % pOf f) := fun h => by unfold mulL; rw [if_neg h]
  clear hR hR' hv hmul
  have HN1 := Lib.hid (fun w h (hr : Reads w v l) => normal_any f l v w h hr hL)
  have HN2 := Lib.hid (fun w h (hr : Reads w v' m) => normal_any f m v' w h hr hL')
  generalize mulL f l m = C at *
  generalize normF f l = A at *
  generalize normF f m = B at *
  go_enter Tryd.func21, Tryd.ntmps21
  go_wp2_with (go_at_call 45; refine (valid_any _ _).mono ?_; rintro e w' ⟨rfl, rfl⟩; rw [HV.out])
  refine (HN1.out _ hT HR.out).mono ?_
  rintro e w1 ⟨⟨v1, rfl, hF1⟩, hO1⟩
  obtain ⟨a1, rfl⟩ := fre_shape hF1
  have HO1 := Lib.hid hO1
  have HF1 := Lib.hid (hF1.reads HUA.out (by omega))
  clear hO1 hF1
  go_wp2_with fail
  refine (HN2.out _ HO1.out.tab (HR'.out.on HO1.out)).mono ?_
  rintro e w2 ⟨⟨v2, rfl, hF2⟩, hO2⟩
  obtain ⟨a2, rfl⟩ := fre_shape hF2
  have HF2 := Lib.hid (hF2.reads HUB.out (by omega))
  have HO2 := Lib.hid (HO1.out.trans hO2)
  have HF1' := Lib.hid (HF1.out.on hO2)
  clear hO2 hF2 HF1 HN1 HN2
  by_cases h0 : A.length = 0
  · have HC := Lib.hid (HM.out (.inl h0))
    have h0' : (((A.length : Nat) : Int) == 0) = true := by simp [h0]
    have H0 := Lib.hid h0; clear h0
    go_wp2
    go_ret2
    exact ⟨fun _ => ⟨_, rfl, by rw [HC.out]; exact Fre.nil _ _⟩, fun _ h _ => (Nat.ne_of_gt h H0.out).elim, HO2.out⟩
  · have h0' : (((A.length : Nat) : Int) == 0) = false := by simp only [beq_eq_false_iff_ne, ne_eq]; omega
    by_cases h1 : B.length = 0
    · have HC := Lib.hid (HM.out (.inr h1))
      have h1' : (((B.length : Nat) : Int) == 0) = true := by simp [h1]
      have H1 := Lib.hid h1; clear h1
      go_wp2
      go_ret2
      exact ⟨fun _ => ⟨_, rfl, by rw [HC.out]; exact Fre.nil _ _⟩, fun _ _ h => (Nat.ne_of_gt h H1.out).elim, HO2.out⟩
    · have h1' : (((B.length : Nat) : Int) == 0) = false := by simp only [beq_eq_false_iff_ne, ne_eq]; omega
      by_cases h2 : 32769 < A.length + B.length
      · have h2' : (32768 : Int) < (A.length : Int) + (B.length : Int) - 1 := by omega
        go_wp2
        go_ret2
        exact ⟨fun h => by omega, fun _ _ _ => rfl, HO2.out⟩
      · obtain ⟨n, hn⟩ : ∃ n : Nat, n = A.length + B.length - 1 := ⟨_, rfl⟩
        have h2' : ((A.length : Int) + (B.length : Int) - 1) = (n : Int) := by omega
        have h3 : n ≤ 32768 := by omega
        have HC := Lib.hid (HM2.out (by omega))
        rw [← hn] at HC
        have hmk := make_run n (by omega) w2
        have HMK := Lib.hid (blk_made w2 n)
        have HO3 : Hid (On w2 (w2.alloc (.cells (madeCells #[.int .u64 0] n) 23))) := (On.refl HO2.out.tab).alloc _
        have HN := Lib.hid hn
        clear hn HM HM2
        go_wp2
        clear hmk h2' h0' h1'
        go_loopw [40] (fun vi wr => ∃ (k : Nat) (o : List Nat), k ≤ n ∧ vi = .int .i64 k ∧ Hid (Upto (List.replicate n 0) (fun k => conv A B k % pOf f) k o) ∧ Blk w2.heap.size wr o ∧ On w2 wr) (fun vi _ => n - (intOf vi).toNat)
        case atStart => exact ⟨0, _, Nat.zero_le _, rfl, Upto.zero _ _, HMK.out, HO3.out⟩
        case round =>
          obtain ⟨k, o, hk, rfl, HT, hB, hOn⟩ := hrel
          by_cases hlt : k < n
          · have hkP : k < (List.replicate n 0).length := by rw [List.length_replicate]; exact hlt
            have hko : k < o.length := by rw [HT.out.1]; exact hkP
            have hcell := hB.cell k hko
            generalize o.getD k 0 = y at *
            have hfr := hB.free k
            have HT2 : Hid (Upto (List.replicate n 0) (fun k => conv A B k % pOf f) (k + 1) (o.set k (conv A B k % pOf f))) := HT.out.step hkP
            have HB2 : Hid (∀ q, Blk w2.heap.size ((wr.drewN q).setCell ⟨w2.heap.size, k, none⟩ (.int .u64 ((conv A B k % pOf f : Nat) : Int))) (o.set k (conv A B k % pOf f))) := fun q => (hB.drewN q).set k _ hko
            have HO4 : Hid (∀ q, On w2 ((wr.drewN q).setCell ⟨w2.heap.size, k, none⟩ (.int .u64 ((conv A B k % pOf f : Nat) : Int)))) := fun q => (hOn.drewN q).setCell (Nat.le_refl _) _
            have HCF := Lib.hid (coef_any f A B _ _ k k wr hOn.tab (HF1'.out.on hOn) (HF2.out.on hOn) hp HA.out HB.out rfl (by omega) (by omega) (by omega))
            clear hB hOn HT hkP hko
            generalize conv A B k % pOf f = z at *
            go_wp2_with (go_at_call 46; refine HCF.out.mono ?_; rintro e w' ⟨rfl, q, rfl⟩; have hcell2 : (wr.drewN q).cell? ⟨w2.heap.size, k, none⟩ = _ := hcell; have hfr2 : (wr.drewN q).frozen? ⟨w2.heap.size, k, none⟩ = false := hfr)
            go_roundw
            case rel => exact ⟨k + 1, _, by omega, by go_num, HT2, HB2.out _, HO4.out _⟩
            case measure => simp [intOf]; omega
          · obtain rfl : k = n := by omega
            have hLo := HT.out.1
            rw [List.length_replicate] at hLo
            have hTu : Upto (List.replicate k 0) (fun k => conv A B k % pOf f) (List.replicate k 0).length o := by rw [List.length_replicate]; exact HT.out
            have hE := hTu.done
            rw [List.length_replicate, ← HC.out] at hE
            have HFin : Hid (Fre w.heap.size wr (.slice (some ⟨w2.heap.size, 0, none⟩) k k) C) := by
              subst hE
              refine .inr ⟨w2.heap.size, by rw [hLo], HO2.out.size, hB⟩
            have hO' := Lib.hid (HO2.out.trans hOn)
            clear HT hB hOn hE hLo hTu
            go_wp2
            go_ret2
            exact ⟨fun _ => ⟨_, rfl, HFin.out⟩, fun h => by omega, hO'.out⟩
end Go.Proofs.YtdhacfagmfecgaaDoor
