/- The document's own Values of transforms: what each call returns. -/
import Derived.Test.YthaabkmodpnbbaaDoorKeCrefB
import Derived.Test.YthaabkmodpnbbaaDoorKeTsized
import Derived.Test.YthaabkmodpnbbaaDoorKeTpoly
import Derived.Test.YthaabkmodpnbbaaDoorKeCrefT
/- The document's own Values of transforms: what each call returns. -/
namespace Go.Proofs.YthaabkmodpnbbaaDoor
open Go.RowKit
set_option linter.unusedVariables false

theorem norm_len_pat {a b : List Nat} (ha : Norm a) (h : ∀ i, b.getD i 0 = 0 → a.getD i 0 = 0) : a.length ≤ b.length := by
  rcases ha with rfl | ha
  · simp
  · rcases Nat.lt_or_ge b.length a.length with h1 | h1
    · exact absurd (h _ (getD_over (by omega))) ha
    · exact h1
theorem shift_len {f : Int} (hv : validB f = true) (p : List Nat) (s : Nat) (hs : s % pOf f ≠ 0) : (shiftF f p s).length = (normF f p).length := by
  have hp := (valid_iff f).1 hv
  have hpow : ∀ i, powF f s i % pOf f ≠ 0 := fun i => by
    induction i with
    | zero => rw [powF_nil f s hv]; have := big f hv; rw [Nat.mod_eq_of_lt (by omega)]; omega
    | succ i ih =>
      rw [powF_add, powF_one f s hp, mulF_modR]
      exact prod_ne f _ _ hv ih hs
  refine Nat.le_antisymm (norm_len_pat (by unfold shiftF; exact normF_norm _ _) fun i h => ?_) (norm_len_pat (normF_norm _ _) fun i h => ?_)
  · rw [normF_getD, redF_pos _ _ hp] at h
    rw [shiftF_getD, mulF_pos _ _ _ hp, Nat.mul_mod, h, Nat.zero_mul, Nat.zero_mod]
  · rw [shiftF_getD] at h
    rw [normF_getD, redF_pos _ _ hp]
    rcases Nat.eq_zero_or_pos (p.getD i 0 % pOf f) with h0 | h0
    · exact h0
    · have := prod_ne f _ _ hv (show p.getD i 0 % pOf f ≠ 0 by omega) (hpow i)
      rw [h, Nat.zero_mod] at this
      exact absurd rfl this

theorem rvalues_arg (f k : Int) (s : Nat) (v : Value) (w : World) (hs : s ≤ 18446744073709551615) (hb : shB f s = false) :
    Calls Tryd.prog 85 #[.int .i64 f, .int .i64 k, .int .u64 (s : Int), v] w fun e w' => e = .returned (.tuple #[.slice none 0 0, .int .i64 1]) ∧ Drawn w w' := by
  cases hv : validB f
  · have HV := Lib.hid hv
    clear hv hb
    go_enter Tryd.func85, Tryd.ntmps85
    go_wp2_with (first
      | (go_at_call 47; refine (rvalid_any _ _).mono ?_; rintro e w' ⟨rfl, rfl⟩; rw [HV.out])
      | (go_at_call 65; refine (rreduce_any f s _ hs).mono ?_; rintro e w' ⟨rfl, hd⟩))
    go_ret2
    exact ⟨rfl, Drawn.refl _⟩
  · have hz : redF f s = 0 := by unfold shB at hb; rw [hv] at hb; simpa using hb
    have HV := Lib.hid hv; have HZ := Lib.hid hz
    clear hv hb hz
    go_enter Tryd.func85, Tryd.ntmps85
    go_wp2_with (first
      | (go_at_call 47; refine (rvalid_any _ _).mono ?_; rintro e w' ⟨rfl, rfl⟩; rw [HV.out])
      | (go_at_call 65; refine (rreduce_any f s _ hs).mono ?_; rintro e w1 ⟨rfl, hd⟩; rw [HZ.out]))
    go_ret2
    exact ⟨rfl, hd⟩
theorem shB_parts {f : Int} {s : Nat} (h : shB f s = true) : validB f = true ∧ redF f s ≠ 0 := by
  unfold shB at h; simpa using h
theorem rvalues_range (f k : Int) (s : Nat) (v : Value) (w : World) (hs : s ≤ 18446744073709551615) (hb : shB f s = true) (hk : k < 0 ∨ (grF f : Int) < k) :
    Calls Tryd.prog 85 #[.int .i64 f, .int .i64 k, .int .u64 (s : Int), v] w fun e w' => e = .returned (.tuple #[.slice none 0 0, .int .i64 2]) ∧ Drawn w w' := by
  obtain ⟨hv, hz⟩ := shB_parts hb
  have HV := Lib.hid hv
  have hz2 : (((redF f s : Nat) : Int) == 0) = false := by simp; exact hz
  clear hb hv hz
  have hg := grF_le f
  have hc : k < 0 ∨ (0 ≤ k ∧ (grF f : Int) < k) := by omega
  clear hk
  rcases hc with h | ⟨h1, h2⟩
  all_goals
    go_enter Tryd.func85, Tryd.ntmps85
    go_wp2_with (first
      | (go_at_call 47; refine (rvalid_any _ _).mono ?_; rintro e w' ⟨rfl, rfl⟩; rw [HV.out])
      | (go_at_call 65; refine (rreduce_any f s _ hs).mono ?_; rintro e w1 ⟨rfl, hd⟩)
      | (go_at_call 48; refine (rgreatest_any f _).mono ?_; rintro e w' ⟨rfl, rfl⟩))
    go_ret2
    exact ⟨rfl, hd⟩

set_option maxHeartbeats 1000000 in
theorem rvalues_any (f : Int) (k s : Nat) (p : List Nat) (v : Value) (w : World) (hT : Tab w) (hs : s ≤ 18446744073709551615) (hb : shB f s = true) (hk : k ≤ grF f) (hk9 : k ≤ 9) (hR : Reads w v p) (hL : p.length ≤ 1000) :
    Calls Tryd.prog 85 #[.int .i64 f, .int .i64 (k : Int), .int .u64 (s : Int), v] w fun e w' =>
      (2 ^ k < (shiftF f p s).length → e = .returned (.tuple #[.slice none 0 0, .int .i64 3])) ∧
      ((shiftF f p s).length ≤ 2 ^ k → ∃ u, e = .returned (.tuple #[u, .int .i64 0]) ∧ Ow w.heap.size w' u (valL f k s p)) ∧ On w w' := by
  obtain ⟨hv, hz⟩ := shB_parts hb
  have hsp := shB_ne hb
  have HV := Lib.hid hv
  have hz2 : (((redF f s : Nat) : Int) == 0) = false := by simp; exact hz
  clear hb hz
  have hg := grF_le f
  have hln := normF_len f p
  have hU := Lib.hid (normF_bd (f := f) (l := p))
  rw [shift_len hv p s hsp]
  have HVL := Lib.hid (valL_len f k s p)
  have HVG : Hid (∀ i, i < 2 ^ k → (valL f k s p).getD i 0 = evF f (normF f p) (rptF f (k : Int) s i)) := fun i hi => by rw [evF_norm, valL_getD hv p s i hi]; rfl
  have HRN := Lib.hid (fun w h (hr : Reads w v p) => rnorm_any f p v w h hr hL)
  generalize valL f k s p = R at *
  generalize normF f p = q at *
  have h23 : 2 ^ k ≤ 2 ^ 9 := Nat.pow_le_pow_right (by omega) hk9
  obtain ⟨N, hN⟩ : ∃ N, N = 2 ^ k := ⟨_, rfl⟩
  have hpw : (2 : Int) ^ k = (N : Int) := by rw [hN, Int.natCast_pow]; rfl
  rw [← hN] at h23 HVL HVG
  rw [← hN]
  have hNb : N ≤ 512 := by omega
  clear hN h23 hsp hv
  have HR := Lib.hid hR
  have HTT := Lib.hid hT
  clear hR hT
  go_enter Tryd.func85, Tryd.ntmps85
  go_wp2_with (first
    | (go_at_call 47; refine (rvalid_any _ _).mono ?_; rintro e w' ⟨rfl, rfl⟩; rw [HV.out])
    | (go_at_call 65; refine (rreduce_any f s _ hs).mono ?_; rintro e w1 ⟨rfl, hd⟩)
    | (go_at_call 48; refine (rgreatest_any f _).mono ?_; rintro e w' ⟨rfl, rfl⟩))
  have HO1 := Lib.hid (hd.on (On.refl HTT.out))
  clear hd
  refine (HRN.out _ HO1.out.tab (HR.out.on HO1.out)).mono ?_
  rintro e w2 ⟨⟨v2, rfl, hF⟩, hO⟩
  obtain ⟨a2, c2, rfl⟩ := hF.shape
  have HO2 := Lib.hid (HO1.out.trans hO)
  have HRQ := Lib.hid (hF.reads hU.out)
  clear hF hO HO1 HRN
  by_cases hc : N < q.length
  · go_wp2
    go_ret2
    exact ⟨fun _ => rfl, fun h => absurd h (by omega), HO2.out⟩
  · go_wp2
    go_loopw [11, 12] (fun vo vi wr => ∃ (i : Nat) (u : Value), i ≤ N ∧ vi = .int .i64 (i : Int) ∧ u = vo ∧ Hid (Ow w2.heap.size wr u (R.take i)) ∧ Hid (On w2 wr)) (fun _ vi _ => N - (intOf vi).toNat)
    case atStart => exact ⟨0, _, Nat.zero_le _, rfl, rfl, by rw [List.take_zero]; exact Ow.nil _ _, On.refl HO2.out.tab⟩
    case round =>
      obtain ⟨i, u, hi, rfl, rfl, HW, HO⟩ := hrel
      by_cases hlt : i < N
      · have hpt := rptF_le f (k : Int) s i
        have hev := evF_le f q (rptF f (k : Int) s i)
        have HTS := Lib.hid (take_snoc R i (by rw [HVL.out]; exact hlt))
        have HEQ := Lib.hid (HVG.out i hlt)
        have hlen : (R.take i).length ≤ 1000 := by rw [List.length_take]; omega
        have HPT := Lib.hid (rpoint_any f (k : Int) s i wr hs (by omega))
        go_wp2_with fail
        refine HPT.out.mono ?_
        rintro e w3 ⟨rfl, hd3⟩
        have HO3 := Lib.hid (hd3.on HO.out)
        have HW3 : Hid (Ow w2.heap.size w3 u (R.take i)) := by obtain ⟨n, rfl⟩ := hd3; exact HW.out.drewN n
        clear hd3 HPT
        go_wp2_with fail
        refine (reval_any f q (rptF f (k : Int) s i) _ w3 (HRQ.out.on HO3.out) (by omega)).mono ?_
        rintro e w4 ⟨rfl, n4, rfl⟩
        rw [← HEQ.out]
        have hx : R.getD i 0 ≤ 998244353 := by rw [HEQ.out]; exact hev
        obtain ⟨u2, w5, hrun, hu2, hg2, hb2⟩ := append_own w2.heap.size (R.getD i 0) _ rfl (R.take i) u (w3.drewN n4) (w3.drewN n4).heap.size rfl (HW3.out.drewN n4) (HO3.out.drewN n4).size hlen
        rw [← HTS.out] at hu2
        have HRUN := Lib.hid hrun
        have HU2 := Lib.hid hu2
        have HO5 : Hid (On w2 w5) := (HO3.out.drewN n4).grown (Nat.le_refl _) (HW3.out.drewN n4) hg2
        clear hrun hu2 hg2 hb2 hlen
        generalize R.getD i 0 = y at *
        go_wp2_with (at_builtin; refine wp_append2 rfl (.tmp 45) (.tmp 54) _ _ rfl _ _ _ rfl rfl HRUN.out ?_)
        go_roundw
        case rel => exact ⟨i + 1, u2, by omega, by go_num, rfl, HU2, HO5⟩
        case measure => simp [intOf]; omega
      · obtain rfl : i = N := by omega
        have HD : Hid (Ow w2.heap.size wr u R) := by
          have h := HW.out
          rw [List.take_of_length_le (by rw [HVL.out]; exact Nat.le_refl _)] at h
          exact h
        go_wp2
        go_ret2
        exact ⟨fun h => absurd h hc, fun _ => ⟨_, rfl, HD.out.mono HO2.out.size⟩, HO2.out.trans HO.out⟩
end Go.Proofs.YthaabkmodpnbbaaDoor

/- The program's and the document's own Values answer the same: one list and one code. -/
namespace Go.Proofs.YthaabkmodpnbbaaDoor
open Go.RowKit
set_option linter.unusedVariables false

/-- What both return: a list and a code. -/
def Ans (w : World) (e : Ending) (w' : World) (L : List Nat) (c : Int) : Prop := ∃ a n, e = .returned (.tuple #[.slice a L.length n, .int .i64 c]) ∧ Reads w' (.slice a L.length n) L ∧ On w w'
theorem ans_nil {w : World} {e : Ending} {w' : World} {c : Int} (h : e = .returned (.tuple #[.slice none 0 0, .int .i64 c])) (hO : On w w') : Ans w e w' [] c := ⟨none, 0, h, Reads.nil _ _ _, hO⟩
theorem w_rsame (l m : List Nat) (v v' : Value) (w : World) (b : Bool) (hb : decide (l = m) = b) (hT : Tab w) (h : Reads w v l) (h' : Reads w v' m) :
    Calls Tryd.prog 19 #[v, v'] w fun r w' => r = .returned (.bool b) ∧ On w w' :=
  (rsame_any l m v v' w h h').mono fun r w' ⟨h2, n, h3⟩ => ⟨by rw [h2, hb], by rw [h3]; exact (On.refl hT).drewN n⟩
theorem values_pair (f k : Int) (s : Nat) (p : List Nat) (hs : s ≤ 18446744073709551615) (hk : k < 0 ∨ (grF f : Int) < k ∨ (0 ≤ k ∧ k ≤ 9 ∧ k ≤ (grF f : Int))) (hL : p.length ≤ 1000) :
    ∃ (L : List Nat) (c : Int), (∀ v w, Tab w → Reads w v p → Calls Tryd.prog 61 #[.int .i64 f, .int .i64 k, .int .u64 (s : Int), v] w fun e w' => Ans w e w' L c) ∧
      (∀ v w, Tab w → Reads w v p → Calls Tryd.prog 85 #[.int .i64 f, .int .i64 k, .int .u64 (s : Int), v] w fun e w' => Ans w e w' L c) := by
  cases hb : shB f s
  · exact ⟨[], 1, fun v w hT _ => (values_arg f k s v w hT hs hb).mono fun e w' ⟨h1, h2⟩ => ans_nil h1 (h2 ▸ On.refl hT), fun v w hT _ => (rvalues_arg f k s v w hs hb).mono fun e w' ⟨h1, h2⟩ => ans_nil h1 (h2.on (On.refl hT))⟩
  · by_cases hr : k < 0 ∨ (grF f : Int) < k
    · exact ⟨[], 2, fun v w hT _ => (values_range f k s v w hT hs hb hr).mono fun e w' ⟨h1, h2⟩ => ans_nil h1 h2, fun v w hT _ => (rvalues_range f k s v w hs hb hr).mono fun e w' ⟨h1, h2⟩ => ans_nil h1 (h2.on (On.refl hT))⟩
    · obtain ⟨K, rfl⟩ : ∃ K : Nat, k = (K : Int) := ⟨k.toNat, by omega⟩
      have hk9 : K ≤ 9 := by omega
      have hkg : K ≤ grF f := by omega
      obtain ⟨hv, -⟩ := shB_parts hb
      have hp := (valid_iff f).1 hv
      have h23 : 2 ^ K ≤ 2 ^ 9 := Nat.pow_le_pow_right (by omega) hk9
      by_cases hl : (shiftF f p s).length ≤ 2 ^ K
      · refine ⟨valL f K s p, 0, fun v w hT hR => ?_, fun v w hT hR => ?_⟩
        · refine (w_values f K s p v w (2 ^ K) _ rfl rfl hT hs hb hkg hR (by omega) hl).mono ?_
          rintro e w' ⟨a, h1, h2, h3⟩
          exact ⟨a, 2 ^ K, by rw [valL_len]; exact h1, by rw [valL_len]; exact h2, h3⟩
        · refine (rvalues_any f K s p v w hT hs hb hkg hk9 hR hL).mono ?_
          rintro e w' ⟨-, h1, h2⟩
          obtain ⟨u, h3, h4⟩ := h1 hl
          obtain ⟨a, c, rfl⟩ := h4.shape
          exact ⟨a, c, h3, h4.reads (valL_bd hp), h2⟩
      · refine ⟨[], 3, fun v w hT hR => ?_, fun v w hT hR => ?_⟩
        · exact (w_values_limit f K s p v w hT hs hb hkg hR (by omega) (by omega)).mono fun e w' ⟨h1, h2⟩ => ans_nil h1 h2
        · exact (rvalues_any f K s p v w hT hs hb hkg hk9 hR hL).mono fun e w' ⟨h1, _, h2⟩ => ans_nil (h1 (by omega)) h2
end Go.Proofs.YthaabkmodpnbbaaDoor

/- The document's own Multiply of transforms, beside the program's: the same answers. -/
namespace Go.Proofs.YthaabkmodpnbbaaDoor
open Go.RowKit
set_option linter.unusedVariables false

theorem mulL_norm2 {f : Int} (hp : 0 < pOf f) (a b : List Nat) : mulL f (normF f a) (normF f b) = mulL f a b := by
  have h : ∀ l, normF f (normF f l) = normF f l := fun l => normF_id hp (normF_norm f l) (normF_lt f l hp)
  unfold mulL; rw [h, h]
end Go.Proofs.YthaabkmodpnbbaaDoor
