/- The operations on polynomials: what the program and the document's own answers return, in one form. -/
import Derived.Test.YtdhacfagmfecgaaDoorPrefX
namespace Go.Proofs.YtdhacfagmfecgaaDoor
open Go.RowKit
set_option linter.unusedVariables false

/-- The call returns a list that reads as L, and changes nothing. -/
abbrev Lst (P : Program) (fn : FuncId) (args : Array Value) (w : World) (L : List Nat) : Prop :=
  Calls P fn args w fun e w' => (∃ a n c, e = .returned (.slice a n c) ∧ Reads w' (.slice a n c) L) ∧ On w w'
theorem Lst.fre {P : Program} {fn : FuncId} {args : Array Value} {w : World} {L : List Nat} (h : Calls P fn args w fun e w' => (∃ v', e = .returned v' ∧ Fre w.heap.size w' v' L) ∧ On w w') (hU : ∀ x ∈ L, x ≤ 18446744073709551615) (hL : L.length ≤ 1000) : Lst P fn args w L :=
  h.mono fun e w' ⟨⟨v, he, hf⟩, hO⟩ => by
    obtain ⟨a, rfl⟩ := fre_shape hf
    exact ⟨⟨_, _, _, he, hf.reads hU (by omega)⟩, hO⟩
theorem Lst.ow {P : Program} {fn : FuncId} {args : Array Value} {w : World} {L : List Nat} (h : Calls P fn args w fun e w' => (∃ v', e = .returned v' ∧ Ow w.heap.size w' v' L) ∧ On w w') (hU : ∀ x ∈ L, x ≤ 18446744073709551615) : Lst P fn args w L :=
  h.mono fun e w' ⟨⟨v, he, hf⟩, hO⟩ => by
    obtain ⟨a, c, rfl⟩ := hf.shape
    exact ⟨⟨_, _, _, he, hf.reads hU⟩, hO⟩
theorem addL_bd (f : Int) (l m : List Nat) : ∀ x ∈ addL f l m, x ≤ 18446744073709551615 := by unfold addL; exact normF_bd
theorem subL_bd (f : Int) (l m : List Nat) : ∀ x ∈ subL f l m, x ≤ 18446744073709551615 := by unfold subL; exact normF_bd
theorem scaleF_bd (f : Int) (l : List Nat) (s : Nat) : ∀ x ∈ scaleF f l s, x ≤ 18446744073709551615 := by unfold scaleF; exact normF_bd
theorem shiftF_bd (f : Int) (l : List Nat) (s : Nat) : ∀ x ∈ shiftF f l s, x ≤ 18446744073709551615 := by unfold shiftF; exact normF_bd
theorem shiftF_len2 (f : Int) (l : List Nat) (s : Nat) : (shiftF f l s).length ≤ l.length := by unfold shiftF; have := normF_len f ((List.range l.length).map fun i => mulF f (l.getD i 0) (powF f s i)); simpa using this
theorem subL_len2 (f : Int) (l m : List Nat) : (subL f l m).length ≤ max l.length m.length := by unfold subL; refine Nat.le_trans (normF_len _ _) ?_; simp
theorem addL_len2 (f : Int) (l m : List Nat) : (addL f l m).length ≤ max l.length m.length := by unfold addL; refine Nat.le_trans (normF_len _ _) ?_; simp

section
variable (f : Int) (l m : List Nat) (s : Nat) (v v' : Value) (w : World) (hT : Tab w) (hR : Reads w v l) (hR' : Reads w v' m) (hl : l.length ≤ 100) (hm : m.length ≤ 100) (hs : s ≤ 18446744073709551615)
include hT hR hl
theorem p_norm : Lst Tryd.prog 7 #[.int .i64 f, v] w (normF f l) := Lst.fre (normal_any f l v w hT hR (by omega)) normF_bd (by have := normF_len f l; omega)
theorem r_norm : Lst Tryd.prog 8 #[.int .i64 f, v] w (normF f l) := Lst.ow (rnorm_any f l v w hT hR (by omega)) normF_bd
omit hl in
theorem p_deg (D : Int) (hD : D = ((normF f l).length : Int) - 1) : Calls Tryd.prog 9 #[.int .i64 f, v] w fun e w' => e = .returned (.int .i64 D) ∧ On w w' :=
  (degree_any f l v w hT hR).mono fun e w' ⟨h1, h2⟩ => ⟨by rw [h1, hD], h2 ▸ On.refl hT⟩
theorem r_deg (D : Int) (hD : D = ((normF f l).length : Int) - 1) : Calls Tryd.prog 10 #[.int .i64 f, v] w fun e w' => e = .returned (.int .i64 D) ∧ On w w' :=
  (rdegree_any f l v w hT hR (by omega)).mono fun e w' ⟨h1, h2⟩ => ⟨by rw [h1, hD], h2⟩
include hs in
theorem p_scale : Lst Tryd.prog 15 #[.int .i64 f, v, .int .u64 (s : Int)] w (scaleF f l s) := Lst.fre (scale_any f l s v w hT hR (by omega) hs) (scaleF_bd _ _ _) (by have := scaleF_len2 f l s; omega)
include hs in
theorem r_scale : Lst Tryd.prog 16 #[.int .i64 f, v, .int .u64 (s : Int)] w (scaleF f l s) := Lst.ow (rscale_any f l s v w hT hR (by omega) hs) (scaleF_bd _ _ _)
include hs in
theorem p_shift : Lst Tryd.prog 19 #[.int .i64 f, v, .int .u64 (s : Int)] w (shiftF f l s) := Lst.fre (shift_any f l s v w hT hR (by omega) hs) (shiftF_bd _ _ _) (by have := shiftF_len2 f l s; omega)
include hs in
theorem r_shift : Lst Tryd.prog 20 #[.int .i64 f, v, .int .u64 (s : Int)] w (shiftF f l s) := Lst.ow (rshift_any f l s v w hT hR (by omega) hs) (shiftF_bd _ _ _)
include hs in
omit hl in
theorem p_eval (y : Nat) (hy : y = evF f l s) : Calls Tryd.prog 17 #[.int .i64 f, v, .int .u64 (s : Int)] w fun e w' => e = .returned (.int .u64 (y : Int)) ∧ On w w' :=
  (eval_any f l s v w hT hR hs).mono fun e w' ⟨h1, n, h2⟩ => ⟨by rw [h1, hy], by rw [h2]; exact (On.refl hT).drewN n⟩
include hs in
omit hl in
theorem r_eval (y : Nat) (hy : y = evF f l s) : Calls Tryd.prog 18 #[.int .i64 f, v, .int .u64 (s : Int)] w fun e w' => e = .returned (.int .u64 (y : Int)) ∧ On w w' :=
  (reval_any f l s v w hR hs).mono fun e w' ⟨h1, n, h2⟩ => ⟨by rw [h1, hy], by rw [h2]; exact (On.refl hT).drewN n⟩
include hR' hm
theorem p_add : Lst Tryd.prog 11 #[.int .i64 f, v, v'] w (addL f l m) := Lst.fre (padd_any f l m v v' w hT hR hR' (by omega) (by omega)) (addL_bd _ _ _) (by have := addL_len2 f l m; omega)
theorem r_add : Lst Tryd.prog 12 #[.int .i64 f, v, v'] w (addL f l m) := Lst.ow (raddp_any f l m v v' w hT hR hR' (by omega) (by omega)) (addL_bd _ _ _)
theorem p_sub : Lst Tryd.prog 13 #[.int .i64 f, v, v'] w (subL f l m) := Lst.fre (psub_any f l m v v' w hT hR hR' (by omega) (by omega)) (subL_bd _ _ _) (by have := subL_len2 f l m; omega)
theorem r_sub : Lst Tryd.prog 14 #[.int .i64 f, v, v'] w (subL f l m) := Lst.ow (rsubp_any f l m v v' w hT hR hR' (by omega) (by omega)) (subL_bd _ _ _)
end
theorem same_true (L : List Nat) (v v' : Value) (w : World) (hT : Tab w) (hR : Reads w v L) (hR' : Reads w v' L) :
    Calls Tryd.prog 6 #[v, v'] w fun e w' => e = .returned (.bool true) ∧ On w w' :=
  (rsame_any L L v v' w hR hR').mono fun e w' ⟨h1, n, h2⟩ => ⟨by rw [h1]; simp, by rw [h2]; exact (On.refl hT).drewN n⟩
theorem mul_pair (f : Int) (l m : List Nat) (hl : l.length ≤ 100) (hm : m.length ≤ 100) :
    ∃ L c, (∀ v v' w, Tab w → Reads w v l → Reads w v' m → Ans Tryd.prog 21 #[.int .i64 f, v, v'] w L c) ∧ ∀ v v' w, Tab w → Reads w v l → Reads w v' m → Ans Tryd.prog 22 #[.int .i64 f, v, v'] w L c := by
  cases hv : validB f
  · exact ⟨[], 1, fun v v' w hT hR hR' => Ans.none ((mul_no f l m v v' w hT hv).mono fun _ _ ⟨h1, h2⟩ => ⟨h1, h2 ▸ On.refl hT⟩), fun v v' w hT hR hR' => Ans.none ((rmulp_no f v v' w hv).mono fun _ _ ⟨h1, h2⟩ => ⟨h1, h2 ▸ On.refl hT⟩)⟩
  · refine ⟨mulL f l m, 0, fun v v' w hT hR hR' => ?_, fun v v' w hT hR hR' => ?_⟩
    · refine (w_mul f l m v v' w hT hv hR hR' (by omega) (by omega)).mono ?_
      rintro e w' ⟨a, rfl, h, hO⟩
      exact ⟨⟨_, _, _, rfl, h⟩, hO⟩
    · refine (rmulp_any f l m v v' w hT hv hR hR' (by omega) (by omega)).mono ?_
      rintro e w' ⟨⟨u, rfl, h⟩, hO⟩
      obtain ⟨a, rfl⟩ := fre_shape h
      have ha := normF_len f l
      have hb := normF_len f m
      refine ⟨⟨_, _, _, rfl, h.reads (fun x hx => ?_) ?_⟩, hO⟩
      · have := mulL_lt f l m ((valid_iff f).1 hv) x hx; have := pOf_le f; omega
      · unfold mulL; split
        · simp
        · simp; omega
/-- The call returns two lists and a number. -/
abbrev Ans3 (P : Program) (fn : FuncId) (args : Array Value) (w : World) (L M : List Nat) (c : Int) : Prop :=
  Calls P fn args w fun e w' => (∃ a n cp a' n' cp', e = .returned (.tuple #[.slice a n cp, .slice a' n' cp', .int .i64 c]) ∧ Reads w' (.slice a n cp) L ∧ Reads w' (.slice a' n' cp') M) ∧ On w w'
theorem Ans3.none {P : Program} {fn : FuncId} {args : Array Value} {w : World} {c : Int} (h : Calls P fn args w fun e w' => e = .returned (.tuple #[.slice none 0 0, .slice none 0 0, .int .i64 c]) ∧ On w w') : Ans3 P fn args w [] [] c :=
  h.mono fun _ _ ⟨h1, h2⟩ => ⟨⟨_, _, _, _, _, _, h1, Reads.nil _ _ _, Reads.nil _ _ _⟩, h2⟩
theorem div_exists {f : Int} {A B : List Nat} {last : Nat} (hv : validB f = true) (hA : ∀ x ∈ A, x < pOf f) (hN : Norm A) (hB : B.length = last + 1) (hb : B.getD last 0 % pOf f ≠ 0) : ∃ Q R, DivR f A B Q R := by
  have hp := (valid_iff f).1 hv
  have key : ∀ n Q R, R.length ≤ n → RDiv f A B Q R → ∃ Q' R', RDiv f A B Q' R' ∧ R'.length < B.length := by
    intro n
    induction n with
    | zero => intro Q R h hR; exact ⟨Q, R, hR, by omega⟩
    | succ n ih =>
      intro Q R h hR
      by_cases hlt : R.length < B.length
      · exact ⟨Q, R, hR, hlt⟩
      · obtain ⟨t, ht⟩ : ∃ t, R.length = t + (last + 1) := ⟨R.length - (last + 1), by omega⟩
        obtain ⟨h1, h2⟩ := hR.step hv hB hb ht
        exact ih _ _ (by omega) h1
  obtain ⟨Q, R, h1, h2⟩ := key A.length _ A (Nat.le_refl _) (RDiv.start hp hA hN)
  exact ⟨_, _, h1.done hv hN hB hb h2⟩
theorem divide_pair (f : Int) (l m : List Nat) (hl : l.length ≤ 100) (hm : m.length ≤ 100) :
    ∃ L M c, (∀ v v' w, Tab w → Reads w v l → Reads w v' m → Ans3 Tryd.prog 23 #[.int .i64 f, v, v'] w L M c) ∧ ∀ v v' w, Tab w → Reads w v l → Reads w v' m → Ans3 Tryd.prog 24 #[.int .i64 f, v, v'] w L M c := by
  cases hv : validB f
  · exact ⟨[], [], 1, fun v v' w hT hR hR' => Ans3.none ((divide_no f l m v v' w hT hv).mono fun _ _ ⟨h1, h2⟩ => ⟨h1, h2 ▸ On.refl hT⟩), fun v v' w hT hR hR' => Ans3.none ((rdivide_no f v v' w hv).mono fun _ _ ⟨h1, h2⟩ => ⟨h1, h2 ▸ On.refl hT⟩)⟩
  · have hp := (valid_iff f).1 hv
    by_cases h0 : (normF f m).length = 0
    · refine ⟨[], [], 2, fun v v' w hT hR hR' => Ans3.none ?_, fun v v' w hT hR hR' => Ans3.none ?_⟩
      · exact (divide_any f l m v v' w hT hv hR hR' (by omega) (by omega)).mono fun _ _ ⟨h1, _, h2⟩ => ⟨h1 h0, h2⟩
      · exact (rdivide_any f l m v v' w hT hv hR hR' (by omega) (by omega)).mono fun _ _ ⟨h1, _, h2⟩ => ⟨h1 h0, h2⟩
    · obtain ⟨last, hlast⟩ : ∃ last : Nat, (normF f m).length = last + 1 := ⟨(normF f m).length - 1, by omega⟩
      have hb : (normF f m).getD last 0 % pOf f ≠ 0 := by have := norm_last (l := m) hp (by omega); rwa [hlast, Nat.add_sub_cancel] at this
      obtain ⟨Q, R, hD⟩ := div_exists hv (normF_lt f l hp) (normF_norm f l) hlast hb
      have hle := pOf_le f
      refine ⟨Q, R, 0, fun v v' w hT hR hR' => ?_, fun v v' w hT hR hR' => ?_⟩
      · refine (w_div f l m v v' w hT hv hR hR' (by omega) (by omega) (by omega)).mono ?_
        rintro e w' ⟨Q', R', a, b, rfl, h1, h2, h3, hO⟩
        obtain ⟨rfl, rfl⟩ := div_unique hv hlast hb h3 hD
        exact ⟨⟨_, _, _, _, _, _, rfl, h1, h2⟩, hO⟩
      · refine (rdivide_any f l m v v' w hT hv hR hR' (by omega) (by omega)).mono ?_
        rintro e w' ⟨-, h1, hO⟩
        obtain ⟨Q', R', u, u', rfl, h2, h3, h4⟩ := h1 (by omega)
        obtain ⟨rfl, rfl⟩ := div_unique hv hlast hb h4 hD
        obtain ⟨a, c, rfl⟩ := h2.shape
        obtain ⟨a', c', rfl⟩ := h3.shape
        obtain ⟨g1, g2, _⟩ := id h4
        exact ⟨⟨_, _, _, _, _, _, rfl, h2.reads (fun x hx => by have := g1 x hx; omega), h3.reads (fun x hx => by have := g2 x hx; omega)⟩, hO⟩
end Go.Proofs.YtdhacfagmfecgaaDoor
