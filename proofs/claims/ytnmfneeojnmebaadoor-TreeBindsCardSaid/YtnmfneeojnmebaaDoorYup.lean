/- Package tree: upward: the iterator over the levels, and what it hands to each round. -/
import Derived.Test.YtnmfneeojnmebaaDoorYrange
import Derived.Test.YtnmfneeojnmebaaDoorYw2
import Derived.Test.YtnmfneeojnmebaaDoorQtin
namespace Go.Proofs.YtnmfneeojnmebaaDoor
open Go.RowKit Go.Shelf
set_option linter.unusedVariables false
attribute [local go_sem] Oper.semAt_some

/-- A level that was handed over: its block, its capacity, its digests. -/
abbrev Lv := Nat × Nat × List Dg
abbrev lvV (x : Lv) : Value := .slice (some ⟨x.1, 0, none⟩) x.2.2.length x.2.1
def LvOk (f : Int) (l : List Dg) (xs : List Lv) : Prop := ∀ (j : Nat) (x : Lv), xs[j]? = some x → x.2.2 = lvl f l j
theorem LvOk.nil (f : Int) (l : List Dg) : LvOk f l [] := fun j x h => by simp at h
theorem LvOk.snoc {f : Int} {l : List Dg} {xs : List Lv} (h : LvOk f l xs) (x : Lv) (hx : x.2.2 = lvl f l xs.length) : LvOk f l (xs ++ [x]) := fun j y hy => by
  rcases Nat.lt_trichotomy j xs.length with e | e | e
  · rw [List.getElem?_append_left e] at hy; exact h j y hy
  · subst e; rw [List.getElem?_append_right (Nat.le_refl _), Nat.sub_self] at hy; simp at hy; subst hy; exact hx
  · rw [List.getElem?_append_right (by omega)] at hy
    have : ([x] : List Lv)[j - xs.length]? = none := List.getElem?_eq_none (by simp; omega)
    rw [this] at hy; cases hy
/-- What holds of a level where it is handed over. -/
def LvM (n1 : Nat) (x : Lv) (W : World) : Prop := DB x.1 W x.2.2 ∧ 0 < x.2.2.length ∧ n1 ≤ x.1
/-- What a round must keep. -/
structure LvK (L F : Nat) (W W' : World) : Prop where
  size : W.heap.size ≤ W'.heap.size
  db : ∀ B l, 0 < l.length → DB B W l → DB B W' l
  hL : W'.heap[L]? = W.heap[L]?
  hF : W'.heap[F]? = W.heap[F]?
  h0 : W'.heap[0]? = W.heap[0]?
theorem LvK.trans {L F : Nat} {A B C : World} (h : LvK L F A B) (k : LvK L F B C) : LvK L F A C :=
  ⟨Nat.le_trans h.size k.size, fun b l hl hb => k.db b l hl (h.db b l hl hb), k.hL.trans h.hL, k.hF.trans h.hF, k.h0.trans h.h0⟩
theorem On.gb {W w : World} (h : On W w) : W.grownBy w none := ⟨h.2.os, h.2.tape, h.2.output, h.2.size, fun i hi _ => h.2.block i hi⟩
theorem DB.gb {B : Nat} {X Y : World} {row : Option Nat} {l : List Dg} (h : DB B X l) (hl : 0 < l.length) (hg : X.grownBy Y row) (hr : ∀ r, row = some r → ∃ o : Obj, X.heap[r]? = some o ∧ o.isCells = false) : DB B Y l := by
  refine h.kept hg.size (hg.block B h.1 fun e => ?_)
  obtain ⟨o, ho, hc⟩ := hr B e.symm
  have c := (h.2.1 0 hl).1
  unfold World.cell? at c
  rw [ho] at c
  cases o <;> simp_all [Obj.isCells]
theorem lvM_own (n1 B : Nat) : OwnFrom B (LvM n1) := fun x X Y row ⟨h1, h2, h3⟩ hg hr => ⟨h1.gb h2 hg (fun r e => (hr r e).2), h2, h3⟩

theorem lvl_sm (f : Int) (l : List Dg) (h : ∀ t, SmD (l.getD t zD)) : ∀ j t, SmD ((lvl f l j).getD t zD) := by
  intro j
  cases j with
  | zero => exact h
  | succ j =>
    intro t
    show SmD ((upD f (lvl f l j)).getD t zD)
    by_cases ht : t < (lvl f l j).length / 2
    · rw [upD_get _ _ _ ht]; exact nodeF_sm _ _ _
    · rw [List.getD_eq_getElem?_getD, List.getElem?_eq_none (by rw [upD_len]; omega)]; exact zD_sm
set_option maxRecDepth 100000 in
set_option maxHeartbeats 2000000 in
theorem up_in (m : Nat) (f : Int) (l : List Dg) (v : Value) (K : Nat) (hK : K ≤ 18) (hlen : l.length = 2 ^ K) (L Fb : Nat) (i : Nat) (n1 : Nat) (J Jx : List Lv → World → Prop)
    (W : World) (hT : Tab W) (hR : DR W v l) (hL : Boxed W L 22 v) (hF : Boxed W Fb 3 (.int .i64 f)) (hn1 : n1 ≤ W.heap.size) (hL0 : L < W.heap.size) (hF0 : Fb < W.heap.size)
    (aJ : AbidesFrom W.heap.size J) (hY : ∀ pre x W1, J pre W1 → LvM n1 x W1 → pre.length < 19 → YieldAt Fence.wide (m - 1) Tryd.prog i #[lvV x] W1 fun e W' => (e = .returned (.bool true) ∧ J (pre ++ [x]) W' ∧ LvK L Fb W1 W') ∨ (e = .returned (.bool false) ∧ Jx (pre ++ [x]) W')) (h0 : J [] W) :
    CallsIn Fence.wide m Tryd.prog 60 #[.func (.yield i) #[] #[], .pointer (some ⟨L, 0, none⟩), .pointer (some ⟨Fb, 0, none⟩)] W fun e W' => (∃ v, e = .returned v) ∧
      ((∃ xs, (LvOk f l xs ∧ xs.length = K + 1) ∧ J xs W') ∨ (∃ pre, (LvOk f l pre ∧ pre.length ≤ K + 1) ∧ Jx pre W')) := by
  have hsm : ∀ t, SmD (l.getD t zD) := hR.sm
  have HPW : Hid (∀ t, t ≤ 18 → 2 ^ t ≤ 262144) := fun t ht => Nat.le_trans (Nat.pow_le_pow_right (by omega) ht : 2 ^ t ≤ 2 ^ 18) (by decide)
  have hlb : l.length ≤ 262144 := by rw [hlen]; exact Nat.le_trans (Nat.pow_le_pow_right (by omega) hK : 2 ^ K ≤ 2 ^ 18) (by decide)
  have hl0 : 0 < l.length := by rw [hlen]; exact Nat.pow_pos (by omega)
  obtain ⟨a, cap, rfl⟩ := hR.shape
  have HCL := Lib.hid (clone_any l _ W hT hR hl0 (by omega))
  have HLN := Lib.hid (lvl_len f l K hlen)
  have HT := Lib.hid hT; have HY := Lib.hid hY; have HAJ := Lib.hid aJ; have HAJ' := Lib.hid aJ; have H0 := Lib.hid h0
  have HL := Lib.hid hL; have HF := Lib.hid hF
  have hlc := hL.cell
  have HLB := Lib.hid hlb
  clear hT hY aJ h0 hR hL hF hlen
  refine callsIn_of_wp Tryd.func60 rfl trivial ?_ rfl
  simp only [Tryd.ntmps60, List.size_toArray, List.length_cons, List.length_nil, Nat.reduceAdd, Nat.reduceSub, Array.replicate_succ, Array.replicate_zero, List.push_toArray, List.append_toArray, List.nil_append, List.cons_append]
  gi_wp2_with (refine ⟨trivial, fun h => by simp [Fence.wide] at h, ?_⟩; gi_at_call 45; refine (callsIn_wide.2 HCL.out).mono ?_; rintro e w1 ⟨⟨B1, c1, rfl, hB1, hD1⟩, hO1⟩)
  have HO1 := Lib.hid hO1
  have HD1 := Lib.hid hD1
  clear hO1 hD1
  gi_loopw [4] (fun v4 wr => ∃ (j B c N : Nat) (pre : List Lv), j ≤ K ∧ v4 = .slice (some ⟨B, 0, none⟩) N c ∧ Hid (N = (lvl f l j).length ∧ DB B wr (lvl f l j) ∧ n1 ≤ B) ∧ Hid (LvOk f l pre ∧ pre.length = j) ∧ Hid (J pre wr) ∧
      Hid (Boxed wr Fb 3 (.int .i64 f) ∧ Tab wr ∧ W.heap.size ≤ wr.heap.size)) (fun v4 _ => match v4 with | .slice _ N _ => N | _ => 0)
  case atStart =>
    refine ⟨0, B1, c1, l.length, [], Nat.zero_le _, rfl, ⟨rfl, HD1.out, by omega⟩, ⟨LvOk.nil _ _, rfl⟩, HAJ.out _ _ _ none H0.out HO1.out.gb (fun r e => by cases e), ⟨box_on' HF.out HO1.out, HO1.out.tab, HO1.out.size⟩⟩
  case round =>
    obtain ⟨j, B, c, N, pre, hj, rfl, HD, HP, HJ, HX⟩ := hrel
    have hN : N = 2 ^ (K - j) := by rw [HD.out.1]; exact HLN.out j hj
    have hN0 : 0 < N := by rw [hN]; exact Nat.pow_pos (by omega)
    obtain ⟨fn, tmps, assign, body, hy, hRd⟩ := HY.out pre (B, c, lvl f l j) wr HJ.out ⟨HD.out.2.1, by show 0 < (lvl f l j).length; rw [← HD.out.1]; exact hN0, HD.out.2.2⟩ (by rw [HP.out.2]; omega)
    have HNE := Lib.hid HD.out.1
    have hye : (lvl f l j).length = N := HD.out.1.symm
    rw [show lvV (B, c, lvl f l j) = .slice (some ⟨B, 0, none⟩) N c from by rw [HD.out.1]] at hy
    have HP2 : Hid (LvOk f l (pre ++ [(B, c, lvl f l j)]) ∧ (pre ++ [((B, c, lvl f l j) : Lv)]).length = j + 1) := ⟨HP.out.1.snoc _ (by show lvl f l j = lvl f l pre.length; rw [HP.out.2]), by simp [HP.out.2]⟩
    have HN := Lib.hid hN
    clear hye hN
    gi_wp2
    refine ⟨fun h => by simp [Fence.wide] at h, hRd.mono ?_⟩
    rintro e W3 (⟨rfl, hJ3, hk3⟩ | ⟨rfl, hJx3⟩)
    · have HJ3 := Lib.hid hJ3
      have HD3 := Lib.hid (hk3.db B (lvl f l j) (by rw [← HD.out.1]; exact hN0) HD.out.2.1)
      have HT3 : Hid (Tab W3) := HX.out.2.1.of_cells fun o => World.cell?_of_block (a := ⟨0, o, none⟩) hk3.h0
      have HF3 : Hid (Boxed W3 Fb 3 (.int .i64 f)) := hk3.hF.trans HX.out.1
      have HS3 : Hid (W.heap.size ≤ W3.heap.size) := Nat.le_trans HX.out.2.2 hk3.size
      clear hJ3 hk3 hRd hy
      by_cases hlt : j < K
      · have h1N : (1 : Int) < (N : Int) := by
          have : 2 ^ 1 ≤ 2 ^ (K - j) := Nat.pow_le_pow_right (by omega) (by omega)
          have := HN.out; omega
        have HR3 : Hid (DR W3 (.slice (some ⟨B, 0, none⟩) N c) (lvl f l j)) := by
          have h := HD3.out.reads (fun t ht => lvl_sm f l hsm j t) (by rw [HLN.out j hj]; have := HPW.out (K - j) (by omega); omega) c
          rw [HD.out.1]; exact h
        have hNb : N ≤ 262144 := by rw [HN.out]; exact HPW.out (K - j) (by omega)
        have HNO : Hid (Calls Tryd.prog 61 #[.int .i64 f, .slice (some ⟨B, 0, none⟩) N c] W3 fun e w' => e = .returned (.slice (some ⟨W3.heap.size, 0, none⟩) (N / 2) (N / 2)) ∧ DB W3.heap.size w' (lvl f l (j + 1)) ∧ On W3 w') := by
          have h := nodes_any f (lvl f l j) _ W3 HT3.out HR3.out (by rw [← HD.out.1]; omega)
          rw [← HD.out.1] at h; exact h
        have hfc := HF3.out.cell
        clear HR3
        gi_wp2_with (refine ⟨trivial, fun h => by simp [Fence.wide] at h, ?_⟩; gi_at_call 61; refine (callsIn_wide.2 HNO.out).mono ?_; rintro e w4 ⟨rfl, hD4, hO4⟩)
        go_roundw
        case rel => exact ⟨j + 1, _, _, _, pre ++ [(B, c, lvl f l j)], by omega, rfl, ⟨by rw [HLN.out (j + 1) (by omega), HN.out, show K - j = (K - (j + 1)) + 1 by omega, Nat.pow_succ, Nat.mul_div_cancel _ (by omega)], hD4, Nat.le_trans hn1 HS3.out⟩, HP2, HAJ'.out _ _ _ none HJ3.out hO4.gb (fun r e => by cases e), ⟨box_on' HF3.out hO4, hO4.tab, Nat.le_trans HS3.out hO4.size⟩⟩
        case measure => simp; omega
      · obtain rfl : j = K := by omega
        have h1N : ¬ (1 : Int) < (N : Int) := by
          have := HN.out; rw [Nat.sub_self, Nat.pow_zero] at this; omega
        gi_wp2
        go_end0
        exact ⟨⟨_, rfl⟩, .inl ⟨_, HP2.out, HJ3.out⟩⟩
    · gi_wp2
      go_end0
      exact ⟨⟨_, rfl⟩, .inr ⟨_, ⟨HP2.out.1, by rw [HP2.out.2]; omega⟩, hJx3⟩⟩
end Go.Proofs.YtnmfneeojnmebaaDoor
