/- The law's own call domain of stage 9: what it returns. -/
import Derived.Test.YtiibcfajcndcnaaDoorKf16
import Derived.Test.YtiibcfajcndcnaaDoorKf17
import Derived.Test.YtiibcfajcndcnaaDoorKf09
/- The law's own call domain of stage 9: what it returns. -/
namespace Go.Proofs.YtiibcfajcndcnaaDoor
open Go.RowKit
set_option linter.unusedVariables false

/-- The exponent that the laws take. -/
def kD (X : Int) (K0 : Nat) : Nat := 3 + K0 % (if X = 0 then 3 else 5)
theorem kD_three (X : Int) (K0 : Nat) : 3 ≤ kD X K0 := by unfold kD; omega
theorem kD_le (X : Int) (K0 : Nat) : kD X K0 ≤ 7 := by unfold kD; split <;> omega
theorem fshD_valid (X : Int) (K0 s : Nat) (hv : validB X = true) : validD X (kD X K0) (shD X s) = true := by
  have hp := (valid_iff X).1 hv
  have h97 := big X hv
  have hg : kD X K0 ≤ grF X := by
    unfold kD
    rcases field_cases X hv with rfl | rfl | rfl | rfl
    · have : grF 0 = 5 := by decide
      rw [this]; simp; omega
    · have : grF 1 = 8 := by decide
      rw [this]; simp; omega
    · have : grF 2 = 12 := by decide
      rw [this]; simp; omega
    · have : grF 3 = 18 := by decide
      rw [this]; simp; omega
  have h1 : shD X s ≠ 0 ∧ shD X s < pOf X := by
    unfold shD
    have : redF X s < pOf X := by rw [redF_pos _ _ hp]; exact Nat.mod_lt _ hp
    split
    · omega
    · omega
  unfold validD
  rw [hv, decide_eq_true (show (0 : Int) ≤ (kD X K0 : Int) by omega), decide_eq_true (show (kD X K0 : Int) ≤ (grF X : Int) by omega), decide_eq_true h1.1, decide_eq_true h1.2]
  rfl
set_option maxRecDepth 100000 in
set_option maxHeartbeats 1000000 in
theorem fdomain_any (X : Int) (A K0 s : Nat) (w : World) (hT : Tab w) (hv : validB X = true) (hA : (A : Int) % 4 = X) (hA1 : A ≤ 255) (hK1 : K0 ≤ 255) (hs : s ≤ 18446744073709551615) :
    Calls Tryd.prog 27 #[.int .u8 (A : Int), .int .u8 (K0 : Int), .int .u64 (s : Int)] w fun e w' => e = .returned (.agg #[.int .i64 X, .int .i64 (kD X K0 : Int), .int .u64 ((shD X s : Nat) : Int)]) ∧ On w w' := by
  have hX : 0 ≤ X ∧ X ≤ 3 := by unfold validB at hv; simpa using hv
  obtain ⟨hX0, hX3⟩ := hX
  have HRD := Lib.hid (fun w hT => reduce_any X s w hT hs)
  have HOR := Lib.hid (On.refl hT)
  have hrb := redF_le X s
  have HO0 := Lib.hid ((On.refl hT).alloc (.cells #[.int .i64 0, .int .i64 0, .int .u64 0] 24))
  have hkl := kD_le X K0
  have htm : Int.tmod (A : Int) 4 = X := by rw [Int.tmod_eq_emod_of_nonneg (by omega)]; exact hA
  by_cases hx : X = 0
  · subst hx
    have hkd : (3 : Int) + (K0 : Int) % 3 = (kD 0 K0 : Int) := by unfold kD; simp
    have hk3 : Int.tmod (K0 : Int) 3 = (K0 : Int) % 3 := Int.tmod_eq_emod_of_nonneg (by omega)
    generalize hre : (K0 : Int) % 3 = r at *
    have hrb2 : 0 ≤ r ∧ r ≤ 2 := by omega
    have HRE := Lib.hid hre; clear hre
    have HV := Lib.hid hv
    clear hv
    generalize kD 0 K0 = N at *
    unfold shD
    have hc : redF 0 s = 0 ∨ redF 0 s ≠ 0 := by omega
    generalize redF 0 s = R at *
    rcases hc with hz | hz
    · rw [if_pos hz]
      subst hz
      obtain ⟨q1, q2, q3, q4, q5, q6, q7, q8, q9⟩ := dom_facts (On.refl HO0.out.tab) (.int .i64 0) (.int .i64 (N : Int)) (.int .u64 ((1 : Nat) : Int))
      go_enter Tryd.func27, Tryd.ntmps27
      go_wp2_with (go_at_call 40; refine (HRD.out _ HO0.out.tab).mono ?_; rintro e w' ⟨rfl, rfl⟩)
      (try simp only [Exit.inBlock, Exit.then])
      refine bodyPost_ret (by simp [results, Tryd.results27, go_sem, q7, q8, q9]; try rfl) rfl ?_
      exact ⟨rfl, HOR.out.alloc _⟩
    · rw [if_neg hz]
      have hne : (((R : Nat) : Int) == 0) = false := by simp; exact hz
      have HZ := Lib.hid hz; clear hz
      obtain ⟨q1, q2, q3, q4, q5, q6, q7, q8, q9⟩ := dom_facts (On.refl HO0.out.tab) (.int .i64 0) (.int .i64 (N : Int)) (.int .u64 (R : Int))
      go_enter Tryd.func27, Tryd.ntmps27
      go_wp2_with (go_at_call 40; refine (HRD.out _ HO0.out.tab).mono ?_; rintro e w' ⟨rfl, rfl⟩)
      (try simp only [Exit.inBlock, Exit.then])
      refine bodyPost_ret (by simp [results, Tryd.results27, go_sem, q7, q8, q9]; try rfl) rfl ?_
      exact ⟨rfl, HOR.out.alloc _⟩
  · have hkd : (3 : Int) + (K0 : Int) % 5 = (kD X K0 : Int) := by unfold kD; rw [if_neg hx]; simp
    have hk3 : Int.tmod (K0 : Int) 5 = (K0 : Int) % 5 := Int.tmod_eq_emod_of_nonneg (by omega)
    generalize hre : (K0 : Int) % 5 = r at *
    have hrb2 : 0 ≤ r ∧ r ≤ 4 := by omega
    have HRE := Lib.hid hre; clear hre
    have HV := Lib.hid hv
    clear hv
    have hxb : (X == 0) = false := by simp; exact hx
    generalize kD X K0 = N at *
    unfold shD
    have hc : redF X s = 0 ∨ redF X s ≠ 0 := by omega
    generalize redF X s = R at *
    rcases hc with hz | hz
    · rw [if_pos hz]
      subst hz
      obtain ⟨q1, q2, q3, q4, q5, q6, q7, q8, q9⟩ := dom_facts (On.refl HO0.out.tab) (.int .i64 X) (.int .i64 (N : Int)) (.int .u64 ((1 : Nat) : Int))
      go_enter Tryd.func27, Tryd.ntmps27
      go_wp2_with (go_at_call 40; refine (HRD.out _ HO0.out.tab).mono ?_; rintro e w' ⟨rfl, rfl⟩)
      (try simp only [Exit.inBlock, Exit.then])
      refine bodyPost_ret (by simp [results, Tryd.results27, go_sem, q7, q8, q9]; try rfl) rfl ?_
      exact ⟨rfl, HOR.out.alloc _⟩
    · rw [if_neg hz]
      have hne : (((R : Nat) : Int) == 0) = false := by simp; exact hz
      have HZ := Lib.hid hz; clear hz
      obtain ⟨q1, q2, q3, q4, q5, q6, q7, q8, q9⟩ := dom_facts (On.refl HO0.out.tab) (.int .i64 X) (.int .i64 (N : Int)) (.int .u64 (R : Int))
      go_enter Tryd.func27, Tryd.ntmps27
      go_wp2_with (go_at_call 40; refine (HRD.out _ HO0.out.tab).mono ?_; rintro e w' ⟨rfl, rfl⟩)
      (try simp only [Exit.inBlock, Exit.then])
      refine bodyPost_ret (by simp [results, Tryd.results27, go_sem, q7, q8, q9]; try rfl) rfl ?_
      exact ⟨rfl, HOR.out.alloc _⟩
end Go.Proofs.YtiibcfajcndcnaaDoor

/- Plain facts of FoldPolys: the word of the sum of the parts. -/
namespace Go.Proofs.YtiibcfajcndcnaaDoor
set_option linter.unusedVariables false

theorem redL_len9 (f : Int) (P : List Nat) (n : Nat) : ((List.range n).map fun i => redF f (P.getD i 0)).length = n := by simp
theorem coef_back9 {f : Int} {k : Nat} (hv : validB f = true) (hk : k ≤ twoOf f) (p : List Nat) (s : Nat) (hs : s % pOf f ≠ 0) (hl : p.length ≤ 2 ^ k) : normF f (coefL f k s (valL f k s p)) = normF f p := by
  have h : coefL f k s (valL f k s p) = (List.range (2 ^ k)).map fun i => redF f (p.getD i 0) :=
    list_ext (by rw [coefL_len, redL_len9]) fun i hi => by
      rw [coefL_len] at hi
      rw [coef_val hv hk p s hs (Nat.le_trans (shiftF_len f p s) hl) i hi, getD_range, if_pos hi]
  rw [h]
  refine normF_ext (normF_norm f p) fun i => ?_
  rw [normF_getD, getD_range]
  by_cases hi : i < 2 ^ k
  · rw [if_pos hi, redF_redF]
  · rw [if_neg hi, getD_over (by omega)]
/-- A polynomial's word is of degree below n exactly if it has at most n coefficients. -/
theorem word_val9 {f : Int} {k s : Nat} (h : validD f k s = true) (p : List Nat) (hl : p.length ≤ 2 ^ k) (n : Int) : wordB f k s (valL f k s p) n = (decide (0 ≤ n) && decide (n ≤ ((2 ^ k : Nat) : Int)) && decide (((normF f p).length : Int) ≤ n)) := by
  obtain ⟨hvf, -, hk2, -, -, hsn, -⟩ := validD_nat h
  unfold wordB
  rw [h, valL_len, sizeD_nat h, decide_eq_true rfl, Bool.true_and, Bool.true_and, Int.toNat_natCast, coef_back9 hvf hk2 p s hsn hl]
theorem norm_id9 {f : Int} (l : List Nat) : normF f (normF f l) = normF f l := normF_ext (normF_norm f l) fun i => by
  rw [normF_getD, redF_redF]

theorem part_len8 (f : Int) (l : List Nat) (k j : Nat) (hj : j < 8) : (part f l 8 k j).length ≤ (k + 7) / 8 := by
  have h := mt (f_part_iff f l 8 (by omega) k j hj ((part f l 8 k j).length - 1)).1
  rcases Nat.eq_zero_or_pos (part f l 8 k j).length with h0 | h0
  · omega
  · have h1 := (f_part_iff f l 8 (by omega) k j hj ((part f l 8 k j).length - 1)).1 (by omega)
    omega
theorem sumQ_len (f : Int) (p : List Nat) (z : Nat) : ∀ j, j ≤ 8 → (sumQ f p z j).length ≤ ((normF f p).length + 7) / 8
  | 0, _ => Nat.zero_le _
  | j + 1, h => by
    unfold sumQ
    have h1 := sumQ_len f p z j (by omega)
    have h2 := scaleF_len8 f (strip (part f p 8 (normF f p).length j)) (powF f z j)
    have h3 := strip_len (part f p 8 (normF f p).length j)
    have h4 := part_len8 f p (normF f p).length j (by omega)
    have h5 := addL_len8 f (sumQ f p z j) (scaleF f (strip (part f p 8 (normF f p).length j)) (powF f z j))
    omega
/-- The fold of a polynomial's word is the word of the sum of the parts, each times a power. -/
theorem fold_word {f : Int} {K s : Nat} (hv : validD f K s = true) (h3 : 3 ≤ K) (p : List Nat) (z : Nat) : fldL f K s (valL f K s p) z = valL f (K - 3) (nxS f s) (sumQ f p z 8) := by
  obtain ⟨hvf, -, hk2, -, -, -, -⟩ := validD_nat hv
  refine list_ext (by rw [fldL_len, valL_len, pow_eighth h3]) fun i hi => ?_
  rw [fldL_len] at hi
  rw [fldL_getD _ _ _ _ _ _ hi, fold_poly hv h3 p z i hi, valL_ptL hvf _ _ _ (by rw [← pow_eighth h3]; exact hi)]
theorem fold_deg {f : Int} {K s : Nat} (hv : validD f K s = true) (h3 : 3 ≤ K) (p : List Nat) (hp : p.length ≤ 2 ^ K) (z : Nat) : wordB f ((K - 3 : Nat) : Int) (nxS f s) (fldL f K s (valL f K s p) z) ((((normF f p).length + 7) / 8 : Nat) : Int) = true := by
  have hn := nx_valid hv h3
  have hl := sumQ_len f p z 8 (by omega)
  have hnl := normF_len f p
  have h8 := pow_eighth h3
  have h9 := eight_of h3
  rw [fold_word hv h3, word_val9 hn _ (by omega)]
  have h1 := normF_len f (sumQ f p z 8)
  rw [decide_eq_true (by omega), decide_eq_true (by omega), decide_eq_true (by omega)]
  rfl
end Go.Proofs.YtiibcfajcndcnaaDoor
