/- Package poly: Divide: what the call returns. -/
import Derived.Test.YthgidehapcfciaaDoorKx03
import Derived.Test.YthgidehapcfciaaDoorKx01
import Derived.Test.YthgidehapcfciaaDoorKx04
set_option linter.unusedSimpArgs false
set_option linter.unusedVariables false
/- Package poly: Divide: what the call returns. -/
namespace Go.Proofs.YthgidehapcfciaaDoor
open Go.RowKit
set_option linter.unusedVariables false

theorem Fre.drewN {B : Nat} {w : World} {v : Value} {l : List Nat} (h : Fre B w v l) (n : Nat) : Fre B (w.drewN n) v l := h
theorem Blk.fre {B g : Nat} {w : World} {l : List Nat} {n : Nat} (h : Blk g w l) (hB : B ≤ g) (hn : l.length = n) : Fre B w (.slice (some ⟨g, 0, none⟩) n n) l := by subst hn; exact .inr ⟨g, rfl, hB, h⟩

end Go.Proofs.YthgidehapcfciaaDoor

/- Package poly: one, withRoot, Vanish: what each call returns. -/
namespace Go.Proofs.YthgidehapcfciaaDoor
open Go.RowKit
set_option linter.unusedVariables false

/-- Block g is a row of cap numbers, the first of which are l. -/
def Row (g cap : Nat) (w : World) (l : List Nat) : Prop := w.ownsRow g 46 1 (.slice (some ⟨g, 0, none⟩) l.length cap) l.length (nums l)
theorem Row.cur {g cap : Nat} {w : World} {l : List Nat} (h : Row g cap w l) : ∃ cur, w.heap[g]? = some (.cells cur 46 (0, 0)) ∧ l.length ≤ cap ∧ cap ≤ maxLen ∧ cur.size = cap ∧ cur.toList.take l.length = nums l := by
  rcases h.2 with ⟨h', _⟩ | ⟨g', cap', cur, h', _, hg, h1, h2, h3, h4⟩
  · simp at h'
  · simp only [Value.slice.injEq, Option.some.injEq, Addr.mk.injEq, and_true, true_and] at h'
    obtain ⟨rfl, rfl⟩ := h'
    exact ⟨cur, hg, h1, h2, by simpa using h3, by simpa using h4⟩
theorem Row.mk {g cap : Nat} {w : World} {l : List Nat} {cur : Array Value} (hg : w.heap[g]? = some (.cells cur 46 (0, 0))) (h1 : l.length ≤ cap) (h2 : cap ≤ maxLen) (h3 : cur.size = cap) (h4 : cur.toList.take l.length = nums l) : Row g cap w l :=
  ⟨by rw [nums_len, Nat.mul_one], .inr ⟨g, cap, cur, rfl, Nat.le_refl _, hg, h1, h2, by simpa using h3, by simpa using h4⟩⟩
theorem Row.blk {g cap : Nat} {w : World} {l : List Nat} (h : Row g cap w l) : Blk g w l := by
  obtain ⟨cur, hg, h1, h2, h3, h4⟩ := h.cur
  refine ⟨(Array.getElem?_eq_some_iff.1 hg).1, fun i hi => ?_, fun i => World.ownsRow.frozenAt h i⟩
  have h5 : (cur.toList.take l.length)[i]? = (nums l)[i]? := by rw [h4]
  rw [List.getElem?_take, if_pos hi, nums_get l i hi] at h5
  unfold World.cell?
  rw [hg]
  simpa using h5
theorem Row.set {g cap : Nat} {w : World} {l : List Nat} (h : Row g cap w l) (j x : Nat) : Row g cap (w.setCell ⟨g, j, none⟩ (.int .u64 ((x : Nat) : Int))) (l.set j x) := by
  have := (World.ownsRow.stored h j (.int .u64 ((x : Nat) : Int))).1
  unfold Row nums
  rw [List.length_set, List.map_set]
  exact this
theorem Row.kept {g cap : Nat} {w w' : World} {l : List Nat} (h : Row g cap w l) (hb : w'.heap[g]? = w.heap[g]?) : Row g cap w' l := by
  obtain ⟨cur, hg, h1, h2, h3, h4⟩ := h.cur
  exact Row.mk (hb.trans hg) h1 h2 h3 h4
theorem Row.on {g cap : Nat} {w w' : World} {l : List Nat} (h : Row g cap w l) (k : On w w') : Row g cap w' l := h.kept (k.2.block g h.blk.1)
theorem Row.ap {g cap C : Nat} {w w' : World} {l : List Nat} (h : Row g cap w l) (k : Ap C w w') (hne : g ≠ C) : Row g cap w' l := h.kept (k.block g h.blk.1 (by simpa using hne))
theorem Row.drewN {g cap : Nat} {w : World} {l : List Nat} (h : Row g cap w l) (n : Nat) : Row g cap (w.drewN n) l := h.kept rfl
theorem Row.eq {g cap : Nat} {w : World} {l m : List Nat} (h : Row g cap w l) (e : l = m) : Row g cap w m := e ▸ h
theorem Row.lt {g cap : Nat} {w : World} {l : List Nat} (h : Row g cap w l) : l.length ≤ cap ∧ cap ≤ 9223372036854775807 := by
  obtain ⟨cur, hg, h1, h2, h3, h4⟩ := h.cur
  unfold maxLen at h2
  exact ⟨h1, h2⟩
theorem row_made (w : World) (n : Nat) (hn : n ≤ 35184372088832) : Row w.heap.size n (w.alloc (.cells (madeCells #[.int .u64 0] n) 46)) [] :=
  Row.mk (heap_alloc_new w _) (by simp) (by unfold maxLen; omega) (by simp [size_madeCells]) (by simp [nums])
theorem append_room (g cap x B n m : Nat) (X : Int) (hX : X = (x : Int)) (l : List Nat) (w : World) (h : Row g cap w l) (hr : l.length < cap) (hB : w.heap.size = B) (hn : l.length = n) (hm : n + 1 = m) :
    ∃ w1, (∀ ty, (Builtin.append_ #[35, 35] ty #[.slice (some ⟨g, 0, none⟩) n cap, .slice (some ⟨B, 0, none⟩) 1 1]).run Tryd.prog (w.alloc (.cells #[.int .u64 X] 46)) = .ok (.slice (some ⟨g, 0, none⟩) m cap) w1) ∧
      Row g cap w1 (l ++ [x]) ∧ Ap g w w1 := by
  subst hB hn hm hX
  obtain ⟨cur, hg, h1, h2, h3, h4⟩ := h.cur
  have hlt : g < w.heap.size := h.blk.1
  obtain ⟨i0, hi, hz0, hz1, hz2⟩ := info_parts info_u64
  have hg' : (w.alloc (.cells #[.int .u64 (x : Int)] 46)).heap[g]? = some (.cells cur 46 (0, 0)) := (Below.heap_alloc w _ g hlt).trans hg
  have hrun := fun ty => run_append_room (P := Tryd.prog) (w.alloc (.cells #[.int .u64 (x : Int)] 46)) 35 ty 46 i0 Tryd.underlying35 hi g l.length cap cur hg' ⟨w.heap.size, 0, none⟩ 1 1 [.int .u64 (x : Int)] (by rw [hz1]; rfl)
    (fun j u hj => by
      cases j with
      | zero => simp at hj; subst hj; exact World.cell?_alloc_at _ _ w.heap.size 0 rfl
      | succ j => simp at hj) (by simp [Value.oneCell']) (by omega) (by rw [hz1]; simp; omega)
  refine ⟨_, hrun, ?_, ?_⟩
  · refine Row.mk (setRow_heap _ g cur _ _ _ hg') (by simp; omega) h2 ?_ ?_
    · rw [hz1]; simp; omega
    · rw [hz1, Nat.mul_one, List.length_append]
      unfold nums at h4 ⊢
      rw [List.map_append]
      have hl : (cur.toList.take l.length).length = l.length := by simp; omega
      rw [List.take_append_of_le_length (by simp; omega), List.take_of_length_le (by simp; omega), h4]
      rfl
  · refine ⟨rfl, rfl, rfl, by simp, fun k hk hne => ?_⟩
    rw [setRow_other _ g k _ (fun e => hne (by rw [e]))]
    exact Below.heap_alloc w _ k hk

/-- The product with X - x. -/
def rootL (f : Int) (l : List Nat) (x : Nat) : List Nat := (List.range (l.length + 1)).map fun i => subF f (if i = 0 then 0 else l.getD (i - 1) 0) (mulF f x (l.getD i 0))
theorem rootL_len (f : Int) (l : List Nat) (x : Nat) : (rootL f l x).length = l.length + 1 := by unfold rootL; simp
theorem rootL_le (f : Int) (l : List Nat) (x : Nat) : ∀ y ∈ rootL f l x, y ≤ 998244353 := fun y hy => by
  unfold rootL at hy
  obtain ⟨i, _, rfl⟩ := List.mem_map.1 hy
  exact subF_le _ _ _
/-- The places above i are turned. -/
def Down (f : Int) (l : List Nat) (x i : Nat) (o : List Nat) : Prop := o.length = l.length + 1 ∧ ∀ j, j ≤ l.length → o.getD j 0 = if i < j then subF f (l.getD (j - 1) 0) (mulF f x (l.getD j 0)) else l.getD j 0
theorem Down.start (f : Int) (l : List Nat) (x : Nat) : Down f l x l.length (l ++ [0]) := by
  refine ⟨by simp, fun j hj => ?_⟩
  rw [if_neg (by omega)]
  exact getD_append_zeros l 1 j
theorem Down.step {f : Int} {l : List Nat} {x i : Nat} {o : List Nat} (h : Down f l x (i + 1) o) (hi : i + 1 ≤ l.length) : Down f l x i (o.set (i + 1) (subF f (l.getD i 0) (mulF f x (l.getD (i + 1) 0)))) := by
  refine ⟨by rw [List.length_set]; exact h.1, fun j hj => ?_⟩
  rw [getD_set1 _ _ _ _ (by rw [h.1]; omega)]
  by_cases e : j = i + 1
  · subst e; rw [if_pos rfl, if_pos (by omega), Nat.add_sub_cancel]
  · rw [if_neg e, h.2 j hj]
    by_cases h2 : i + 1 < j
    · rw [if_pos h2, if_pos (by omega)]
    · rw [if_neg h2, if_neg (by omega)]
theorem Down.done {f : Int} {l : List Nat} {x : Nat} {o : List Nat} (h : Down f l x 0 o) : o.set 0 (subF f 0 (mulF f x (l.getD 0 0))) = rootL f l x := by
  refine list_ext (by rw [List.length_set, h.1, rootL_len]) fun j hj => ?_
  rw [List.length_set, h.1] at hj
  rw [getD_set1 _ _ _ _ (by rw [h.1]; omega)]
  unfold rootL
  rw [getD_range, if_pos hj]
  by_cases e : j = 0
  · subst e; rw [if_pos rfl, if_pos rfl]
  · rw [if_neg e, h.2 j (by omega), if_pos (by omega), if_neg e]

/-- The product of all X - x. -/
def vanL (f : Int) (xs : List Nat) : List Nat := xs.foldl (rootL f) [1]
theorem vanL_snoc (f : Int) (xs : List Nat) (x : Nat) : vanL f (xs ++ [x]) = rootL f (vanL f xs) x := by unfold vanL; rw [List.foldl_append]; rfl
theorem vanL_len (f : Int) (xs : List Nat) : (vanL f xs).length = xs.length + 1 := by
  rcases snoc_cases xs with rfl | ⟨l, c, rfl⟩
  · rfl
  · generalize hk : (l ++ [c]).length = k
    induction k generalizing l c with
    | zero => simp at hk
    | succ k ih =>
      rw [vanL_snoc, rootL_len]
      rcases snoc_cases l with rfl | ⟨l', c', rfl⟩
      · simp at hk; subst hk; rfl
      · rw [ih l' c' (by simp at hk ⊢; omega)]
theorem vanL_le (f : Int) (xs : List Nat) : ∀ y ∈ vanL f xs, y ≤ 998244353 := by
  rcases snoc_cases xs with rfl | ⟨l, c, rfl⟩
  · simp [vanL]
  · rw [vanL_snoc]; exact rootL_le _ _ _
theorem vanL_take (f : Int) (xs : List Nat) (k : Nat) (hk : k < xs.length) : vanL f (xs.take (k + 1)) = rootL f (vanL f (xs.take k)) (xs.getD k 0) := by rw [take_snoc xs k hk, vanL_snoc]

end Go.Proofs.YthgidehapcfciaaDoor

/- Plain numbers: the polynomial through points, a point more with each step. -/
namespace Go.Proofs.YthgidehapcfciaaDoor

/-- A point: two numbers of 64 bits. -/
abbrev Pt := { p : Nat × Nat // p.1 ≤ 18446744073709551615 ∧ p.2 ≤ 18446744073709551615 }
/-- What a further point makes of the polynomial and of the product. -/
def stepN (f : Int) (s : List Nat × List Nat) (p : Pt) : List Nat × List Nat :=
  ((List.range (s.1.length + 1)).map fun i => addF f (s.1.getD i 0) (mulF f (divF f (subF f p.1.2 (evF f s.1 p.1.1)) (evF f s.2 p.1.1)) (s.2.getD i 0)), rootL f s.2 p.1.1)
def stN (f : Int) (ps : List Pt) : List Nat × List Nat := ps.foldl (stepN f) ([], [1])
theorem stN_snoc (f : Int) (ps : List Pt) (p : Pt) : stN f (ps ++ [p]) = stepN f (stN f ps) p := by unfold stN; rw [List.foldl_append]; rfl
theorem pt_cases (l : List Pt) : l = [] ∨ ∃ l' c, l = l' ++ [c] := by
  rcases List.eq_nil_or_concat l with h | ⟨l', c, h⟩
  · exact .inl h
  · exact .inr ⟨l', c, by rw [h, List.concat_eq_append]⟩
theorem stN_facts (f : Int) (ps : List Pt) : (stN f ps).1.length = ps.length ∧ (stN f ps).2.length = ps.length + 1 ∧ (∀ y ∈ (stN f ps).1, y ≤ 998244353) ∧ (∀ y ∈ (stN f ps).2, y ≤ 998244353) := by
  generalize hk : ps.length = k
  induction k generalizing ps with
  | zero =>
    obtain rfl := List.length_eq_zero_iff.1 hk
    exact ⟨rfl, rfl, by simp [stN], by simp [stN]⟩
  | succ k ih =>
    rcases pt_cases ps with rfl | ⟨l, c, rfl⟩
    · simp at hk
    · obtain ⟨h1, h2, h3, h4⟩ := ih l (by simp at hk; omega)
      rw [stN_snoc]
      unfold stepN
      refine ⟨by simp [h1], by rw [rootL_len, h2], fun y hy => ?_, rootL_le _ _ _⟩
      obtain ⟨i, _, rfl⟩ := List.mem_map.1 hy
      exact addF_le _ _ _
/-- No two of the points so far have the same first number. -/
def okNp (f : Int) : List Pt → Prop := fun ps => ∀ pre p suf, ps = pre ++ p :: suf → evF f (stN f pre).2 p.1.1 ≠ 0
theorem okN_nil (f : Int) : okNp f [] := fun pre p suf h => by simp at h
theorem okN_snoc {f : Int} {ps : List Pt} {p : Pt} (h : okNp f ps) (hp : evF f (stN f ps).2 p.1.1 ≠ 0) : okNp f (ps ++ [p]) := by
  intro pre q suf e
  rcases pt_cases suf with rfl | ⟨s', c, rfl⟩
  · obtain ⟨rfl, e2⟩ := List.append_inj' e rfl
    simp at e2; subst e2; exact hp
  · rw [show pre ++ q :: (s' ++ [c]) = (pre ++ q :: s') ++ [c] by simp] at e
    obtain ⟨rfl, _⟩ := List.append_inj' e rfl
    exact h pre q s' rfl
/-- The points of two lists. -/
def ptAt (X Y : Nat → Nat) (hX : ∀ j, X j ≤ 18446744073709551615) (hY : ∀ j, Y j ≤ 18446744073709551615) (j : Nat) : Pt := ⟨(X j, Y j), hX j, hY j⟩
def uptoN {α : Type} (g : Nat → α) (k : Nat) : List α := (List.range k).map g
theorem uptoN_succ {α : Type} (g : Nat → α) (k : Nat) : uptoN g (k + 1) = uptoN g k ++ [g k] := by simp [uptoN, List.range_succ]
theorem uptoN_len {α : Type} (g : Nat → α) (k : Nat) : (uptoN g k).length = k := by simp [uptoN]
theorem okN_prefix {f : Int} {a b : List Pt} (h : okNp f (a ++ b)) : okNp f a := fun pre p suf e => h pre p (suf ++ b) (by rw [e]; simp)
theorem uptoN_split {α : Type} (g : Nat → α) {k n : Nat} (h : k ≤ n) : ∃ b, uptoN g n = uptoN g k ++ b := by
  refine ⟨(uptoN g n).drop k, ?_⟩
  rw [show uptoN g k = (uptoN g n).take k by unfold uptoN; rw [← List.map_take, List.take_range, Nat.min_eq_left h]]
  exact (List.take_append_drop k _).symm
end Go.Proofs.YthgidehapcfciaaDoor

/- Plain numbers: the polynomial through points takes their values, and is the only one. -/
namespace Go.Proofs.YthgidehapcfciaaDoor

theorem add_cancel_mod {p a b c : Nat} (h : (a + c) % p = (b + c) % p) : a % p = b % p := by
  have h1 : ((a + c : Nat) : Int) % (p : Int) = ((b + c : Nat) : Int) % (p : Int) := by exact_mod_cast h
  have h2 := (Int.emod_eq_emod_iff_emod_sub_eq_zero).1 h1
  rw [show ((a + c : Nat) : Int) - ((b + c : Nat) : Int) = (a : Int) - (b : Int) by omega] at h2
  have h3 := (Int.emod_eq_emod_iff_emod_sub_eq_zero).2 h2
  exact_mod_cast h3
theorem subF_modR (f : Int) (a b : Nat) : subF f a (b % pOf f) = subF f a b := by unfold subF; rw [Nat.mod_mod]
theorem rootL_val (f : Int) (l : List Nat) (x z : Nat) (hv : validB f = true) : evF f (rootL f l x) z = mulF f (subF f z x) (evF f l z) := by
  have hp := (valid_iff f).1 hv
  rw [evF_pos _ _ hp, evF_pos _ _ hp, mulF_modR, mulF_pos _ _ _ hp]
  refine add_cancel_mod (c := x * E l z) ?_
  have e1 : E (rootL f l x) z + x * E l z = E ((List.range (l.length + 1)).map fun i => subF f (if i = 0 then 0 else l.getD (i - 1) 0) (mulF f x (l.getD i 0)) + x * l.getD i 0) z := by
    rw [E_range_add, E_range_mul (g := fun i => l.getD i 0), E_range_id l _ _ (by omega)]; rfl
  have e2 : E ((List.range (l.length + 1)).map fun i => if i = 0 then 0 else l.getD (i - 1) 0) z = z * E l z := by
    rw [E_range_succ, if_pos rfl, Nat.zero_add]
    congr 1
    exact (E_ext _ _ _ fun i => by rw [getD_range]; simp only [Nat.add_sub_cancel, Nat.succ_ne_zero, if_false]; rw [getD_range]).trans (E_range_id l l.length z (Nat.le_refl _))
  have e3 : E ((List.range (l.length + 1)).map fun i => subF f (if i = 0 then 0 else l.getD (i - 1) 0) (mulF f x (l.getD i 0)) + x * l.getD i 0) z % pOf f = z * E l z % pOf f := by
    rw [← e2]
    refine E_mod _ _ _ _ _ (fun i => ?_) rfl
    rw [getD_range, getD_range]
    split
    · rw [Nat.add_comm, mulF_pos _ _ _ hp]; exact sub_back f _ _ hp
    · rfl
  rw [e1, e3]
  have e4 : (x + subF f z x) % pOf f = z % pOf f := by rw [← subF_modR]; exact sub_back f x z hp
  rw [← Nat.add_mul, Nat.mul_mod, Nat.mul_mod (subF f z x + x), Nat.add_comm (subF f z x), e4]
theorem mulF_eq_zero {f : Int} {a b : Nat} (hv : validB f = true) (h : mulF f a b = 0) : a % pOf f = 0 ∨ b % pOf f = 0 := by
  have hp := (valid_iff f).1 hv
  rw [mulF_pos _ _ _ hp] at h
  rcases nat_dvd_or (isP_field f hv) (Nat.dvd_of_mod_eq_zero h) with h1 | h1
  · exact .inl (Nat.mod_eq_zero_of_dvd h1)
  · exact .inr (Nat.mod_eq_zero_of_dvd h1)
theorem subF_eq_zero {f : Int} {a b : Nat} (hv : validB f = true) : subF f a b = 0 ↔ a % pOf f = b % pOf f := by
  have hp := (valid_iff f).1 hv
  have e : (b + subF f a b) % pOf f = a % pOf f := by rw [← subF_modR]; exact sub_back f b a hp
  constructor
  · intro h; rw [h, Nat.add_zero] at e; exact e.symm
  · intro h
    rw [h] at e
    have h1 : (subF f a b + b) % pOf f = (0 + b) % pOf f := by rw [Nat.add_comm, e, Nat.zero_add]
    have h2 := add_cancel_mod h1
    rwa [Nat.mod_eq_of_lt (subF_lt f a b hp), Nat.zero_mod] at h2
theorem evF_lt {f : Int} (l : List Nat) (x : Nat) (hp : 0 < pOf f) : evF f l x < pOf f := by rw [evF_pos _ _ hp]; exact Nat.mod_lt _ hp
theorem foldl_root_zero {f : Int} (hv : validB f = true) (xs : List Nat) (l : List Nat) (z : Nat) : evF f (xs.foldl (rootL f) l) z = 0 ↔ evF f l z = 0 ∨ ∃ x ∈ xs, x % pOf f = z % pOf f := by
  have hp := (valid_iff f).1 hv
  induction xs generalizing l with
  | nil => simp
  | cons x xs ih =>
    rw [List.foldl_cons]
    refine (ih (rootL f l x)).trans ?_
    rw [rootL_val f l x z hv]
    constructor
    · rintro (h | ⟨y, hy, h⟩)
      · rcases mulF_eq_zero hv h with h1 | h1
        · rw [Nat.mod_eq_of_lt (subF_lt f z x hp)] at h1
          exact .inr ⟨x, by simp, ((subF_eq_zero hv).1 h1).symm⟩
        · rw [Nat.mod_eq_of_lt (evF_lt l z hp)] at h1; exact .inl h1
      · exact .inr ⟨y, by simp [hy], h⟩
    · rintro (h | ⟨y, hy, h⟩)
      · left; rw [h]; exact mulF_nulR f _
      · rcases List.mem_cons.1 hy with rfl | hy
        · left; rw [(subF_eq_zero hv).2 h.symm]; exact mulF_nulL f _
        · exact .inr ⟨y, hy, h⟩
theorem vanL_zero {f : Int} (hv : validB f = true) (xs : List Nat) (z : Nat) : evF f (vanL f xs) z = 0 ↔ ∃ x ∈ xs, x % pOf f = z % pOf f := by
  have hp := (valid_iff f).1 hv
  unfold vanL
  rw [foldl_root_zero hv]
  have : evF f [1] z ≠ 0 := by
    have hb := big f hv
    rw [evF_pos _ _ hp]
    simp only [E, Nat.mul_zero, Nat.add_zero]
    rw [Nat.mod_eq_of_lt (by omega)]; decide
  constructor
  · rintro (h | h)
    · exact absurd h this
    · exact h
  · exact .inr
theorem stN_van (f : Int) (ps : List Pt) : (stN f ps).2 = vanL f (ps.map fun p => p.1.1) := by
  have key : ∀ (ps : List Pt) (s : List Nat × List Nat), (ps.foldl (stepN f) s).2 = (ps.map fun p => p.1.1).foldl (rootL f) s.2 := by
    intro ps
    induction ps with
    | nil => intro s; rfl
    | cons p ps ih => intro s; rw [List.foldl_cons, ih]; rfl
  exact key ps ([], [1])
theorem stepN_val {f : Int} (hv : validB f = true) (L1 L2 : List Nat) (hl : L2.length = L1.length + 1) (p : Pt) (z : Nat) :
    evF f (stepN f (L1, L2) p).1 z = addF f (evF f L1 z) (mulF f (divF f (subF f p.1.2 (evF f L1 p.1.1)) (evF f L2 p.1.1)) (evF f L2 z)) := by
  have hp := (valid_iff f).1 hv
  unfold stepN
  simp only []
  generalize divF f (subF f p.1.2 (evF f L1 p.1.1)) (evF f L2 p.1.1) = s
  rw [evF_pos _ _ hp, evF_pos _ _ hp, evF_pos _ _ hp, mulF_modR, addF_modL, mulF_pos _ _ _ hp, addF_modR, addF_pos _ _ _ hp]
  rw [← E_range_id L1 (L1.length + 1) z (by omega), ← E_range_id L2 (L1.length + 1) z (by omega), ← E_range_mul (g := fun i => L2.getD i 0), ← E_range_add]
  refine E_mod _ _ _ _ _ (fun i => ?_) rfl
  rw [getD_range, getD_range]
  split
  · rw [addF_pos _ _ _ hp, mulF_pos _ _ _ hp, Nat.add_mod_mod, Nat.mod_mod]
  · rfl
theorem okN_snoc_iff {f : Int} {ps : List Pt} {p : Pt} : okNp f (ps ++ [p]) ↔ okNp f ps ∧ evF f (stN f ps).2 p.1.1 ≠ 0 :=
  ⟨fun h => ⟨okN_prefix h, h ps p [] rfl⟩, fun h => okN_snoc h.1 h.2⟩
theorem pt_rec {P : List Pt → Prop} (h0 : P []) (h1 : ∀ ps p, P ps → P (ps ++ [p])) (ps : List Pt) : P ps := by
  generalize hk : ps.length = k
  induction k generalizing ps with
  | zero => rw [List.length_eq_zero_iff.1 hk]; exact h0
  | succ k ih =>
    rcases pt_cases ps with rfl | ⟨l, c, rfl⟩
    · exact h0
    · exact h1 l c (ih l (by simp at hk; omega))
theorem okN_iff {f : Int} (hv : validB f = true) (ps : List Pt) : okNp f ps ↔ (ps.map fun p => p.1.1).Pairwise fun x y => x % pOf f ≠ y % pOf f := by
  refine pt_rec (P := fun ps => okNp f ps ↔ (ps.map fun p => p.1.1).Pairwise fun x y => x % pOf f ≠ y % pOf f) ?_ (fun ps p ih => ?_) ps
  · exact ⟨fun _ => List.Pairwise.nil, fun _ => okN_nil f⟩
  · rw [okN_snoc_iff, ih, List.map_append, List.pairwise_append, stN_van, ne_eq, vanL_zero hv]
    constructor
    · rintro ⟨h1, h2⟩
      refine ⟨h1, by simp, fun a ha b hb hab => h2 ⟨a, ha, ?_⟩⟩
      simp at hb; subst hb; exact hab
    · rintro ⟨h1, _, h2⟩
      exact ⟨h1, fun ⟨x, hx, h⟩ => h2 x hx _ (by simp) h⟩
theorem interp_val {f : Int} (hv : validB f = true) (ps : List Pt) : okNp f ps → ∀ q ∈ ps, evF f (stN f ps).1 q.1.1 = q.1.2 % pOf f := by
  have hp := (valid_iff f).1 hv
  refine pt_rec (P := fun ps => okNp f ps → ∀ q ∈ ps, evF f (stN f ps).1 q.1.1 = q.1.2 % pOf f) (fun _ q hq => by simp at hq) (fun ps p ih hok q hq => ?_) ps
  rw [okN_snoc_iff] at hok
  obtain ⟨h1, h2, _, _⟩ := stN_facts f ps
  rw [stN_snoc, show stN f ps = ((stN f ps).1, (stN f ps).2) from rfl, stepN_val hv _ _ (by omega)]
  rcases List.mem_append.1 hq with hq | hq
  · have hz : evF f (stN f ps).2 q.1.1 = 0 := by rw [stN_van]; exact (vanL_zero hv _ _).2 ⟨q.1.1, List.mem_map.2 ⟨q, hq, rfl⟩, rfl⟩
    rw [hz, mulF_nulR, ih hok.1 q hq, addF_zeroR _ _ hp, Nat.mod_mod]
  · simp at hq; subst hq
    have hne : evF f (stN f ps).2 q.1.1 % pOf f ≠ 0 := by rw [Nat.mod_eq_of_lt (evF_lt _ _ hp)]; exact hok.2
    rw [div_mul f _ _ hv hne, addF_modR, addF_pos _ _ _ hp]
    have := sub_back f (evF f (stN f ps).1 q.1.1) q.1.2 hp
    rwa [subF_modR] at this
/-- The polynomial through points. -/
def thruL (f : Int) (ps : List Pt) : List Nat := strip (stN f ps).1
theorem E_strip (l : List Nat) (x : Nat) : E (strip l) x = E l x := E_ext _ _ _ fun i => strip_getD l i
theorem evF_strip (f : Int) (l : List Nat) (x : Nat) : evF f (strip l) x = evF f l x := by unfold evF; rw [E_strip]
theorem evF_norm (f : Int) (l : List Nat) (x : Nat) : evF f (normF f l) x = evF f l x := by
  rcases Nat.eq_zero_or_pos (pOf f) with hp | hp
  · rw [evF_zero _ _ hp, evF_zero _ _ hp]
  · rw [evF_pos _ _ hp, evF_pos _ _ hp]
    exact E_mod _ _ _ _ _ (fun i => by rw [normF_getD, redF_pos _ _ hp, Nat.mod_mod]) rfl
theorem stN_lt {f : Int} (hp : 0 < pOf f) (ps : List Pt) : ∀ y ∈ (stN f ps).1, y < pOf f := by
  rcases pt_cases ps with rfl | ⟨l, c, rfl⟩
  · simp [stN]
  · rw [stN_snoc]; unfold stepN
    intro y hy
    obtain ⟨i, _, rfl⟩ := List.mem_map.1 hy
    exact addF_lt _ _ _ hp
theorem thruL_facts {f : Int} (hv : validB f = true) (ps : List Pt) : Norm (thruL f ps) ∧ (∀ y ∈ thruL f ps, y < pOf f) ∧ (thruL f ps).length ≤ ps.length :=
  ⟨norm_strip _, fun y hy => stN_lt ((valid_iff f).1 hv) ps y (strip_mem hy), by have := strip_len (stN f ps).1; rw [(stN_facts f ps).1] at this; exact this⟩
theorem thruL_only {f : Int} (hv : validB f = true) {ps : List Pt} (hok : okNp f ps) (q : List Nat) (hq : q.length ≤ ps.length) (h : ∀ p ∈ ps, evF f q p.1.1 = p.1.2 % pOf f) : normF f q = thruL f ps := by
  have hp := (valid_iff f).1 hv
  obtain ⟨h1, h2, h3⟩ := thruL_facts hv ps
  refine normF_ext h1 fun i => ?_
  have := same_evF hv (thruL f ps) q (ps.map fun p => p.1.1) (by simpa using h3) (by simpa using hq) ((okN_iff hv ps).1 hok) (fun y hy => by
    obtain ⟨p, hpm, rfl⟩ := List.mem_map.1 hy
    unfold thruL
    rw [evF_strip, interp_val hv ps hok p hpm, h p hpm]) i
  rw [← this, redF_pos _ _ hp, Nat.mod_eq_of_lt (getD_lt hp h2 i)]
end Go.Proofs.YthgidehapcfciaaDoor

/- Plain numbers: how many roots a polynomial has. -/
namespace Go.Proofs.YthgidehapcfciaaDoor

/-- The roots among the first n numbers. -/
def cntR (f : Int) (p : List Nat) (n : Nat) : Nat := ((List.range n).filter fun x => evF f p x == 0).length
theorem cntR_succ (f : Int) (p : List Nat) (n : Nat) : cntR f p (n + 1) = cntR f p n + (if evF f p n = 0 then 1 else 0) := by
  unfold cntR
  rw [List.range_succ, List.filter_append, List.length_append]
  by_cases h : evF f p n = 0
  · simp [h]
  · simp [h]
theorem cntR_le (f : Int) (p : List Nat) (n : Nat) : cntR f p n ≤ n := by
  unfold cntR; have := List.length_filter_le (fun x => evF f p x == 0) (List.range n); simpa using this
theorem evF_nil (f : Int) (x : Nat) : evF f [] x = 0 := by unfold evF; split <;> simp [E]
theorem cntR_none {f : Int} {p : List Nat} (n : Nat) (h : normF f p = []) : cntR f p n = n := by
  unfold cntR
  rw [List.filter_eq_self.2 (fun x _ => by rw [← evF_norm, h, evF_nil]; rfl), List.length_range]
theorem cntR_some {f : Int} {p : List Nat} (hv : validB f = true) (h : 0 < (normF f p).length) : cntR f p (pOf f) ≤ (normF f p).length - 1 := by
  have hp := (valid_iff f).1 hv
  rcases Nat.lt_or_ge (cntR f p (pOf f)) (normF f p).length with h1 | h1
  · omega
  · exfalso
    have hd : ((List.range (pOf f)).filter fun x => evF f p x == 0).Pairwise fun x y => x % pOf f ≠ y % pOf f := by
      have h2 : (List.range (pOf f)).Pairwise fun x y => x < y ∧ y < pOf f := by
        have h3 := List.pairwise_lt_range (n := pOf f)
        refine List.Pairwise.imp_of_mem ?_ h3
        intro a b _ hb hab
        exact ⟨hab, List.mem_range.1 hb⟩
      refine (h2.filter _).imp fun {x y} hxy => ?_
      rw [Nat.mod_eq_of_lt (by omega), Nat.mod_eq_of_lt hxy.2]
      omega
    have h2 := same_evF hv (normF f p) [] _ h1 (by simp) hd (fun y hy => by
      rw [evF_norm, evF_nil]
      have := (List.mem_filter.1 hy).2
      simpa using this) ((normF f p).length - 1)
    have h3 := norm_last hp h
    rw [redF_pos _ _ hp] at h2
    apply h3
    rw [h2]
    simp [redF_nul]
theorem rootL_top (f : Int) (l : List Nat) (x : Nat) (hv : validB f = true) (h0 : 0 < l.length) (h : l.getD (l.length - 1) 0 = 1) : (rootL f l x).getD l.length 0 = 1 := by
  have hp := (valid_iff f).1 hv
  have hb := big f hv
  unfold rootL
  rw [getD_range, if_pos (by omega), if_neg (by omega), h, getD_over (Nat.le_refl _), mulF_nulR, subF_pos _ _ _ hp, Nat.zero_mod, Nat.sub_zero, Nat.add_mod_right, Nat.mod_eq_of_lt (by omega)]
theorem vanL_top (f : Int) (xs : List Nat) (hv : validB f = true) : (vanL f xs).getD xs.length 0 = 1 := by
  rcases snoc_cases xs with rfl | ⟨l, c, rfl⟩
  · rfl
  · generalize hk : l.length = k
    induction k generalizing l c with
    | zero =>
      obtain rfl := List.length_eq_zero_iff.1 hk
      exact rootL_top f [1] c hv (by decide) rfl
    | succ k ih =>
      rcases snoc_cases l with rfl | ⟨l', c', rfl⟩
      · simp at hk
      · have h1 := ih l' c' (by simp at hk; omega)
        rw [vanL_snoc, show ((l' ++ [c']) ++ [c]).length = (vanL f (l' ++ [c'])).length by rw [vanL_len]; simp]
        refine rootL_top f _ c hv (by rw [vanL_len]; omega) ?_
        rw [vanL_len, Nat.add_sub_cancel]; exact h1
/-- Is a number among the first k of a list, modulo n? -/
def amongB (xs : List Nat) (n x k : Nat) : Bool := (xs.take k).any fun y => y % n == x
theorem amongB_succ (xs : List Nat) (n x k : Nat) (hk : k < xs.length) : amongB xs n x (k + 1) = (amongB xs n x k || (xs.getD k 0 % n == x)) := by
  unfold amongB; rw [take_snoc xs k hk, List.any_append]; simp
theorem amongB_all {f : Int} (hv : validB f = true) (xs : List Nat) (x : Nat) (hx : x < pOf f) : amongB xs (pOf f) x xs.length = decide (evF f (vanL f xs) x = 0) := by
  unfold amongB
  rw [List.take_length, Bool.eq_iff_iff]
  simp only [decide_eq_true_eq, vanL_zero hv, List.any_eq_true, beq_iff_eq, Nat.mod_eq_of_lt hx]
end Go.Proofs.YthgidehapcfciaaDoor
