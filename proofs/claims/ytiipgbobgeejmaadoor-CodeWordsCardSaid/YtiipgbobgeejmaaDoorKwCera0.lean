/- Known places, filled up and changed: plain facts and blocks of Bools, for the law on erasures. -/
import Derived.Test.YtiipgbobgeejmaaDoorKb18
import Derived.Test.YtiipgbobgeejmaaDoorKwCdist0
namespace Go.Proofs.YtiipgbobgeejmaaDoor
open Go.RowKit
set_option linter.unusedVariables false

/-- How many of the first m are known. -/
def cntB (K : Nat → Bool) (m : Nat) : Nat := ((List.range m).filter K).length
theorem cntB_succ (K : Nat → Bool) (m : Nat) : cntB K (m + 1) = cntB K m + if K m = true then 1 else 0 := by
  unfold cntB
  rw [List.range_succ, List.filter_append, List.length_append]
  congr 1
  by_cases h : K m = true
  · rw [if_pos h, List.filter_cons_of_pos h]; rfl
  · rw [if_neg h, List.filter_cons_of_neg h]; rfl
theorem cntB_congr {K L : Nat → Bool} {m : Nat} (h : ∀ j, j < m → K j = L j) : cntB K m = cntB L m := by
  induction m with
  | zero => rfl
  | succ m ih => rw [cntB_succ, cntB_succ, ih fun j hj => h j (by omega), h m (by omega)]
theorem cntB_le (K : Nat → Bool) (m : Nat) : cntB K m ≤ m := by
  unfold cntB; have := List.length_filter_le K (List.range m); rwa [List.length_range] at this
theorem cntB_all {K : Nat → Bool} {m : Nat} (h : ∀ j, j < m → K j = true) : cntB K m = m := by
  induction m with
  | zero => rfl
  | succ m ih => rw [cntB_succ, ih fun j hj => h j (by omega), if_pos (h m (by omega))]
theorem cntB_set {K : Nat → Bool} {i m : Nat} (hi : i < m) (h : K i = false) : cntB (fun j => if j = i then true else K j) m = cntB K m + 1 := by
  induction m with
  | zero => omega
  | succ m ih =>
    rw [cntB_succ, cntB_succ]
    by_cases e : i = m
    · subst e
      rw [if_pos (if_pos rfl), if_neg (by rw [h]; exact Bool.false_ne_true), cntB_congr (L := K) fun j hj => if_neg (by omega)]
    · rw [ih (by omega), if_neg (show ¬ m = i from fun h2 => e h2.symm)]
      omega
theorem firstN_full {K : Nat → Bool} {n m : Nat} (h : n ≤ cntB K m) : (firstN K n m).length = n := by
  unfold cntB at h; unfold firstN; rw [List.length_take]; omega
theorem firstN_mem {K : Nat → Bool} {n m i : Nat} (h : i ∈ firstN K n m) : i < m ∧ K i = true := by
  unfold firstN at h
  have h2 := List.mem_of_mem_take h
  rw [List.mem_filter, List.mem_range] at h2
  exact h2
/-- The last known place is beyond the first n, if there are more. -/
theorem firstN_last {K : Nat → Bool} {n m t : Nat} (ht : t < m) (hK : K t = true) (hl : ∀ j, t < j → j < m → K j = false) (hn : n < cntB K m) : ∀ i ∈ firstN K n m, i ≠ t := by
  have hc : cntB K m = cntB K t + 1 := by
    have key : ∀ d, t + 1 + d ≤ m → cntB K (t + 1 + d) = cntB K t + 1 := fun d => by
      induction d with
      | zero => intro _; rw [Nat.add_zero, cntB_succ, if_pos hK]
      | succ d ih => intro h; rw [← Nat.add_assoc, cntB_succ, ih (by omega), if_neg (by rw [hl _ (by omega) (by omega)]; exact Bool.false_ne_true)]
    have := key (m - t - 1) (by omega)
    rwa [show t + 1 + (m - t - 1) = m by omega] at this
  have hsplit : (List.range m).filter K = (List.range t).filter K ++ ((List.range (m - t)).map (t + ·)).filter K := by
    rw [← List.filter_append, ← List.range_add, show t + (m - t) = m by omega]
  intro i hi
  unfold firstN at hi
  have hlen : n ≤ ((List.range t).filter K).length := by unfold cntB at hc hn; omega
  rw [hsplit, List.take_append_of_le_length hlen] at hi
  have h2 := List.mem_of_mem_take hi
  rw [List.mem_filter, List.mem_range] at h2
  omega
/-- What the law hands to Fill. -/
def someL (V : List Nat) (K : Nat → Bool) (i : Nat) : List Nat := (List.range i).map fun j => if K j = true then V.getD j 0 else j
theorem someL_len (V : List Nat) (K : Nat → Bool) (i : Nat) : (someL V K i).length = i := by simp [someL]
theorem someL_getD (V : List Nat) (K : Nat → Bool) (i j : Nat) (h : j < i) : (someL V K i).getD j 0 = if K j = true then V.getD j 0 else j := by unfold someL; rw [getD_range, if_pos h]
theorem someL_succ (V : List Nat) (K : Nat → Bool) (i : Nat) : someL V K (i + 1) = someL V K i ++ [if K i = true then V.getD i 0 else i] := by simp [someL, List.range_succ]
theorem someL_le {V : List Nat} (h : ∀ x ∈ V, x ≤ 18446744073709551615) (K : Nat → Bool) (i : Nat) (hi : i ≤ 1000) : ∀ x ∈ someL V K i, x ≤ 18446744073709551615 := fun x hx => by
  unfold someL at hx
  obtain ⟨j, hj, rfl⟩ := List.mem_map.1 hx
  rw [List.mem_range] at hj
  split
  · rcases Nat.lt_or_ge j V.length with h1 | h1
    · exact h _ (getD_mem V j h1)
    · rw [getD_over h1]; omega
  · omega
/-- Where the known values are those of a polynomial, Fill finds it. -/
theorem fill_same {f : Int} {N s n : Nat} {v P p : List Nat} {K : Nat → Bool} (hv : validD f N s = true) (hp : FillP f N s v K n p) (hn : n ≤ cntB K (2 ^ N)) (hP : P.length ≤ n) (hPn : normF f P = P) (hk : ∀ i ∈ firstN K n (2 ^ N), v.getD i 0 = (valL f N s P).getD i 0) : p = P := by
  obtain ⟨hvf, -, -, -, -, -, -⟩ := validD_nat hv
  have hpp := (valid_iff f).1 hvf
  rw [fillP_only hv hp (firstN_full hn) hP fun i hi => by
    rw [hk i hi, valL_ptL hvf P s i (firstN_mem hi).1, Nat.mod_eq_of_lt (evF_lt _ _ hpp)], hPn]
theorem add_one_ne {f : Int} (hv : validB f = true) (x : Nat) (hx : x < pOf f) : x ≠ redF f (addF f x 1) := by
  have hp := (valid_iff f).1 hv
  have h97 := big f hv
  rw [redF_pos _ _ hp, addF_pos _ _ _ hp, Nat.mod_mod]
  intro h
  by_cases hl : x + 1 < pOf f
  · rw [Nat.mod_eq_of_lt hl] at h; omega
  · have e : x + 1 = pOf f := by omega
    rw [e, Nat.mod_self] at h; omega
/-- A block of Bools. -/
def BB (B m : Nat) (w : World) (K : Nat → Bool) : Prop := B < w.heap.size ∧ (∀ j, j < m → w.cell? ⟨B, j, none⟩ = some (.bool (K j))) ∧ ∀ j, w.frozen? ⟨B, j, none⟩ = false
theorem BB.on {B m : Nat} {w w' : World} {K : Nat → Bool} (h : BB B m w K) (k : On w w') : BB B m w' K :=
  ⟨by have := k.size; have := h.1; omega, fun j hj => by rw [k.cell (p := ⟨B, j, none⟩) h.1]; exact h.2.1 j hj, fun j => by rw [k.frozen (p := ⟨B, j, none⟩) h.1]; exact h.2.2 j⟩
theorem BB.set {B m : Nat} {w : World} {K : Nat → Bool} (h : BB B m w K) (i : Nat) (b : Bool) (hi : i < m) : BB B m (w.setCell ⟨B, i, none⟩ (.bool b)) (fun j => if j = i then b else K j) := by
  refine ⟨by simpa [World.setCell] using h.1, fun j hj => ?_, fun j => by have := h.2.2 j; simpa using this⟩
  show _ = some (Value.bool (if j = i then b else K j))
  by_cases e : j = i
  · subst e; rw [if_pos rfl]; exact World.cell?_setCell_same (h := h.2.1 j hj) ..
  · rw [if_neg e, World.cell?_setCell_other (h := fun e2 => by have := congrArg Addr.off e2; simp at this; omega) ..]; exact h.2.1 j hj
theorem BB.eq {B m : Nat} {w : World} {K L : Nat → Bool} (h : BB B m w K) (e : ∀ j, j < m → L j = K j) : BB B m w L := ⟨h.1, fun j hj => by rw [e j hj]; exact h.2.1 j hj, h.2.2⟩
theorem BB.reads {B m : Nat} {w : World} {K : Nat → Bool} (h : BB B m w K) (c : Nat) : ReadsK w (.slice (some ⟨B, 0, none⟩) m c) K m := ⟨_, c, rfl, fun j hj => ⟨B, 0, rfl, by rw [Nat.zero_add]; exact h.2.1 j hj⟩⟩
theorem info_bool : (Tryd.prog.info? 4).map (fun i => (i.zero, i.size, i.bytes)) = some (some (.bool false), 1, 1) := by kernel_rfl
set_option maxRecDepth 10000 in
theorem make_bools (n : Nat) (hn : n ≤ 1000) (w : World) :
    (Instr.makeSlice 26 (.int .i64 (n : Int)) (.int .i64 (n : Int))).run Tryd.prog w = .ok (.slice (some ⟨w.heap.size, 0, none⟩) n n) (w.alloc (.cells (madeCells #[.bool false] n) 4)) := by
  obtain ⟨i0, hi, hz0, hz1, hz2⟩ := info_parts info_bool
  have h := run_make (P := Tryd.prog) w 26 4 i0 (.bool false) Tryd.underlying26 hi hz0 .i64 .i64 (n : Int) (n : Int) (by omega) (by omega) (by rw [hz2]; omega) (by omega)
  rw [hz1] at h
  simpa [Value.cells] using h
theorem bb_made (w : World) (m : Nat) : BB w.heap.size m (w.alloc (.cells (madeCells #[.bool false] m) 4)) (fun _ => false) := by
  refine ⟨by simp, fun j hj => ?_, fun j => World.frozen?_alloc_new ..⟩
  rw [World.cell?_alloc_new]
  have hl : (madeCells #[Value.bool false] m).toList = List.replicate m (Value.bool false) := toList_madeCells_one _ _
  have : (madeCells #[Value.bool false] m).toList[j]? = some (Value.bool false) := by rw [hl]; simp [hj]
  simpa using this
end Go.Proofs.YtiipgbobgeejmaaDoor
