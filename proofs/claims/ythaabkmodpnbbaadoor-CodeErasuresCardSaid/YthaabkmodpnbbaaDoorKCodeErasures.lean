/- A list of Bools that comes in: how it reads. -/
import Derived.Test.YthaabkmodpnbbaaDoorKb19
import Derived.Test.YthaabkmodpnbbaaDoorKb15
import Derived.Deep.Grids
import Derived.Test.YthaabkmodpnbbaaDoorKb09
import Derived.Test.YthaabkmodpnbbaaDoorKb05
import Derived.Test.YthaabkmodpnbbaaDoorKb03
import Derived.Test.YthaabkmodpnbbaaDoorKb18
import Derived.Test.YthaabkmodpnbbaaDoorKb04
/- A list of Bools that comes in: how it reads. -/
namespace Go.Proofs.YthaabkmodpnbbaaDoor
open Go.ChangeShapes Go.WideShapes Go.ChangeAt Go.RowKit Go.Deep
set_option linter.unusedVariables false

theorem cellsBool : Tryd.prog.cellsOf 4 = 1 := by kernel_rfl
set_option maxRecDepth 100000 in
theorem arg_bools {H : Type} {enc : TypeId × Value → H} {W : World} {base : Nat} {v : Value} {d : DataW H} {p : List MemPlace} (hv : Value.okWide Tryd.prog W .any base 43 v)
    (h : DataW.Trod enc Tryd.prog W 0 (fun _ => true) true 43 v d p) : ∃ (m : Nat) (K : Nat → Bool), ReadsK W v K m ∧ m ≤ 9223372036854775807 := by
  obtain ⟨a0, len, cap, rfl⟩ := okWide_slice Tryd.underlying43 hv
  obtain ⟨fuel, hf⟩ := h
  rcases open_bools Tryd.underlying43 Tryd.underlying4 cellsBool hf with ⟨hcs, hx⟩ | ⟨a, len', cap', B, hcs, _, hl, hm, hx, hcell⟩
  · simp [Value.cells] at hcs
    obtain ⟨rfl, rfl, rfl⟩ := hcs
    exact ⟨0, fun _ => false, ⟨none, 0, rfl, fun j hj => by omega⟩, by omega⟩
  · simp [Value.cells] at hcs
    obtain ⟨rfl, rfl, rfl⟩ := hcs
    unfold maxLen at hm
    refine ⟨len, B, ⟨some a, cap, rfl, fun j hj => ?_⟩, by omega⟩
    obtain ⟨b, off, spot⟩ := a
    have hspot : spot = none := by simpa [Addr.add] using World.cell?_spot (hcell 0 (by omega))
    subst hspot
    have h1 := hcell j (by omega)
    rw [add_plain] at h1
    exact ⟨b, off, rfl, h1⟩
end Go.Proofs.YthaabkmodpnbbaaDoor

/- Contracts at lists that are known, and what a word of a polynomial is: for the laws on words. -/
namespace Go.Proofs.YthaabkmodpnbbaaDoor
open Go.RowKit
set_option linter.unusedVariables false

theorem redL_len (f : Int) (P : List Nat) (n : Nat) : ((List.range n).map fun i => redF f (P.getD i 0)).length = n := by simp
theorem coef_back {f : Int} {k : Nat} (hv : validB f = true) (hk : k ≤ twoOf f) (p : List Nat) (s : Nat) (hs : s % pOf f ≠ 0) (hl : p.length ≤ 2 ^ k) : normF f (coefL f k s (valL f k s p)) = normF f p := by
  have h : coefL f k s (valL f k s p) = (List.range (2 ^ k)).map fun i => redF f (p.getD i 0) :=
    list_ext (by rw [coefL_len, redL_len]) fun i hi => by
      rw [coefL_len] at hi
      rw [coef_val hv hk p s hs (Nat.le_trans (shiftF_len f p s) hl) i hi, getD_range, if_pos hi]
  rw [h]
  refine normF_ext (normF_norm f p) fun i => ?_
  rw [normF_getD, getD_range]
  by_cases hi : i < 2 ^ k
  · rw [if_pos hi, redF_redF]
  · rw [if_neg hi, getD_over (by omega)]
/-- A polynomial's word is of degree below n exactly if it has at most n coefficients. -/
theorem word_val {f : Int} {k s : Nat} (h : validD f k s = true) (p : List Nat) (hl : p.length ≤ 2 ^ k) (n : Int) : wordB f k s (valL f k s p) n = (decide (0 ≤ n) && decide (n ≤ ((2 ^ k : Nat) : Int)) && decide (((normF f p).length : Int) ≤ n)) := by
  obtain ⟨hvf, -, hk2, -, -, hsn, -⟩ := validD_nat h
  unfold wordB
  rw [h, valL_len, sizeD_nat h, decide_eq_true rfl, Bool.true_and, Bool.true_and, Int.toNat_natCast, coef_back hvf hk2 p s hsn hl]
theorem norm_id {f : Int} (l : List Nat) : normF f (normF f l) = normF f l := normF_ext (normF_norm f l) fun i => by
  rw [normF_getD, redF_redF]
theorem w_norm (f : Int) (l : List Nat) (v : Value) (w : World) (hT : Tab w) (hR : Reads w v l) (hL : l.length ≤ 100000) :
    Calls Tryd.prog 33 #[.int .i64 f, v] w fun e w' => ∃ a, e = .returned (.slice a (normF f l).length (normF f l).length) ∧ Reads w' (.slice a (normF f l).length (normF f l).length) (normF f l) ∧ On w w' := by
  refine (normal_any f l v w hT hR (by omega)).mono ?_
  rintro e w' ⟨⟨u, rfl, h5⟩, h3⟩
  obtain ⟨a, rfl⟩ := fre_shape h5
  have := normF_len f l
  exact ⟨a, rfl, h5.reads (fun x hx => by have := normF_le f l x hx; omega) (by omega), h3⟩
end Go.Proofs.YthaabkmodpnbbaaDoor

/- Known places, filled up and changed: plain facts and blocks of Bools, for the law on erasures. -/
namespace Go.Proofs.YthaabkmodpnbbaaDoor
open Go.RowKit
set_option linter.unusedVariables false

/-- How many of the first m are known. -/
def cntB (K : Nat → Bool) (m : Nat) : Nat := ((List.range m).filter K).length
theorem cntB_succ (K : Nat → Bool) (m : Nat) : cntB K (m + 1) = cntB K m + if K m = true then 1 else 0 := by
  unfold cntB
  rw [List.range_succ, List.filter_append, List.length_append]
  congr 1
  by_cases h : K m = true
  · rw [if_pos h, List.filter_cons_of_pos h]; rfl
  · rw [if_neg h, List.filter_cons_of_neg h]; rfl
theorem cntB_congr {K L : Nat → Bool} {m : Nat} (h : ∀ j, j < m → K j = L j) : cntB K m = cntB L m := by
  induction m with
  | zero => rfl
  | succ m ih => rw [cntB_succ, cntB_succ, ih fun j hj => h j (by omega), h m (by omega)]
theorem cntB_le (K : Nat → Bool) (m : Nat) : cntB K m ≤ m := by
  unfold cntB; have := List.length_filter_le K (List.range m); rwa [List.length_range] at this
theorem cntB_all {K : Nat → Bool} {m : Nat} (h : ∀ j, j < m → K j = true) : cntB K m = m := by
  induction m with
  | zero => rfl
  | succ m ih => rw [cntB_succ, ih fun j hj => h j (by omega), if_pos (h m (by omega))]
theorem cntB_set {K : Nat → Bool} {i m : Nat} (hi : i < m) (h : K i = false) : cntB (fun j => if j = i then true else K j) m = cntB K m + 1 := by
  induction m with
  | zero => omega
  | succ m ih =>
    rw [cntB_succ, cntB_succ]
    by_cases e : i = m
    · subst e
      rw [if_pos (if_pos rfl), if_neg (by rw [h]; exact Bool.false_ne_true), cntB_congr (L := K) fun j hj => if_neg (by omega)]
    · rw [ih (by omega), if_neg (show ¬ m = i from fun h2 => e h2.symm)]
      omega
theorem firstN_full {K : Nat → Bool} {n m : Nat} (h : n ≤ cntB K m) : (firstN K n m).length = n := by
  unfold cntB at h; unfold firstN; rw [List.length_take]; omega
theorem firstN_mem {K : Nat → Bool} {n m i : Nat} (h : i ∈ firstN K n m) : i < m ∧ K i = true := by
  unfold firstN at h
  have h2 := List.mem_of_mem_take h
  rw [List.mem_filter, List.mem_range] at h2
  exact h2
/-- The last known place is beyond the first n, if there are more. -/
theorem firstN_last {K : Nat → Bool} {n m t : Nat} (ht : t < m) (hK : K t = true) (hl : ∀ j, t < j → j < m → K j = false) (hn : n < cntB K m) : ∀ i ∈ firstN K n m, i ≠ t := by
  have hc : cntB K m = cntB K t + 1 := by
    have key : ∀ d, t + 1 + d ≤ m → cntB K (t + 1 + d) = cntB K t + 1 := fun d => by
      induction d with
      | zero => intro _; rw [Nat.add_zero, cntB_succ, if_pos hK]
      | succ d ih => intro h; rw [← Nat.add_assoc, cntB_succ, ih (by omega), if_neg (by rw [hl _ (by omega) (by omega)]; exact Bool.false_ne_true)]
    have := key (m - t - 1) (by omega)
    rwa [show t + 1 + (m - t - 1) = m by omega] at this
  have hsplit : (List.range m).filter K = (List.range t).filter K ++ ((List.range (m - t)).map (t + ·)).filter K := by
    rw [← List.filter_append, ← List.range_add, show t + (m - t) = m by omega]
  intro i hi
  unfold firstN at hi
  have hlen : n ≤ ((List.range t).filter K).length := by unfold cntB at hc hn; omega
  rw [hsplit, List.take_append_of_le_length hlen] at hi
  have h2 := List.mem_of_mem_take hi
  rw [List.mem_filter, List.mem_range] at h2
  omega
/-- What the law hands to Fill. -/
def someL (V : List Nat) (K : Nat → Bool) (i : Nat) : List Nat := (List.range i).map fun j => if K j = true then V.getD j 0 else j
theorem someL_len (V : List Nat) (K : Nat → Bool) (i : Nat) : (someL V K i).length = i := by simp [someL]
theorem someL_getD (V : List Nat) (K : Nat → Bool) (i j : Nat) (h : j < i) : (someL V K i).getD j 0 = if K j = true then V.getD j 0 else j := by unfold someL; rw [getD_range, if_pos h]
theorem someL_succ (V : List Nat) (K : Nat → Bool) (i : Nat) : someL V K (i + 1) = someL V K i ++ [if K i = true then V.getD i 0 else i] := by simp [someL, List.range_succ]
theorem someL_le {V : List Nat} (h : ∀ x ∈ V, x ≤ 18446744073709551615) (K : Nat → Bool) (i : Nat) (hi : i ≤ 1000) : ∀ x ∈ someL V K i, x ≤ 18446744073709551615 := fun x hx => by
  unfold someL at hx
  obtain ⟨j, hj, rfl⟩ := List.mem_map.1 hx
  rw [List.mem_range] at hj
  split
  · rcases Nat.lt_or_ge j V.length with h1 | h1
    · exact h _ (getD_mem V j h1)
    · rw [getD_over h1]; omega
  · omega
/-- Where the known values are those of a polynomial, Fill finds it. -/
theorem fill_same {f : Int} {N s n : Nat} {v P p : List Nat} {K : Nat → Bool} (hv : validD f N s = true) (hp : FillP f N s v K n p) (hn : n ≤ cntB K (2 ^ N)) (hP : P.length ≤ n) (hPn : normF f P = P) (hk : ∀ i ∈ firstN K n (2 ^ N), v.getD i 0 = (valL f N s P).getD i 0) : p = P := by
  obtain ⟨hvf, -, -, -, -, -, -⟩ := validD_nat hv
  have hpp := (valid_iff f).1 hvf
  rw [fillP_only hv hp (firstN_full hn) hP fun i hi => by
    rw [hk i hi, valL_ptL hvf P s i (firstN_mem hi).1, Nat.mod_eq_of_lt (evF_lt _ _ hpp)], hPn]
theorem add_one_ne {f : Int} (hv : validB f = true) (x : Nat) (hx : x < pOf f) : x ≠ redF f (addF f x 1) := by
  have hp := (valid_iff f).1 hv
  have h97 := big f hv
  rw [redF_pos _ _ hp, addF_pos _ _ _ hp, Nat.mod_mod]
  intro h
  by_cases hl : x + 1 < pOf f
  · rw [Nat.mod_eq_of_lt hl] at h; omega
  · have e : x + 1 = pOf f := by omega
    rw [e, Nat.mod_self] at h; omega
/-- A block of Bools. -/
def BB (B m : Nat) (w : World) (K : Nat → Bool) : Prop := B < w.heap.size ∧ (∀ j, j < m → w.cell? ⟨B, j, none⟩ = some (.bool (K j))) ∧ ∀ j, w.frozen? ⟨B, j, none⟩ = false
theorem BB.on {B m : Nat} {w w' : World} {K : Nat → Bool} (h : BB B m w K) (k : On w w') : BB B m w' K :=
  ⟨by have := k.size; have := h.1; omega, fun j hj => by rw [k.cell (p := ⟨B, j, none⟩) h.1]; exact h.2.1 j hj, fun j => by rw [k.frozen (p := ⟨B, j, none⟩) h.1]; exact h.2.2 j⟩
theorem BB.set {B m : Nat} {w : World} {K : Nat → Bool} (h : BB B m w K) (i : Nat) (b : Bool) (hi : i < m) : BB B m (w.setCell ⟨B, i, none⟩ (.bool b)) (fun j => if j = i then b else K j) := by
  refine ⟨by simpa [World.setCell] using h.1, fun j hj => ?_, fun j => by have := h.2.2 j; simpa using this⟩
  show _ = some (Value.bool (if j = i then b else K j))
  by_cases e : j = i
  · subst e; rw [if_pos rfl]; exact World.cell?_setCell_same (h := h.2.1 j hj) ..
  · rw [if_neg e, World.cell?_setCell_other (h := fun e2 => by have := congrArg Addr.off e2; simp at this; omega) ..]; exact h.2.1 j hj
theorem BB.eq {B m : Nat} {w : World} {K L : Nat → Bool} (h : BB B m w K) (e : ∀ j, j < m → L j = K j) : BB B m w L := ⟨h.1, fun j hj => by rw [e j hj]; exact h.2.1 j hj, h.2.2⟩
theorem BB.reads {B m : Nat} {w : World} {K : Nat → Bool} (h : BB B m w K) (c : Nat) : ReadsK w (.slice (some ⟨B, 0, none⟩) m c) K m := ⟨_, c, rfl, fun j hj => ⟨B, 0, rfl, by rw [Nat.zero_add]; exact h.2.1 j hj⟩⟩
theorem info_bool : (Tryd.prog.info? 4).map (fun i => (i.zero, i.size, i.bytes)) = some (some (.bool false), 1, 1) := by kernel_rfl
set_option maxRecDepth 10000 in
theorem make_bools (n : Nat) (hn : n ≤ 1000) (w : World) :
    (Instr.makeSlice 43 (.int .i64 (n : Int)) (.int .i64 (n : Int))).run Tryd.prog w = .ok (.slice (some ⟨w.heap.size, 0, none⟩) n n) (w.alloc (.cells (madeCells #[.bool false] n) 4)) := by
  obtain ⟨i0, hi, hz0, hz1, hz2⟩ := info_parts info_bool
  have h := run_make (P := Tryd.prog) w 43 4 i0 (.bool false) Tryd.underlying43 hi hz0 .i64 .i64 (n : Int) (n : Int) (by omega) (by omega) (by rw [hz2]; omega) (by omega)
  rw [hz1] at h
  simpa [Value.cells] using h
theorem bb_made (w : World) (m : Nat) : BB w.heap.size m (w.alloc (.cells (madeCells #[.bool false] m) 4)) (fun _ => false) := by
  refine ⟨by simp, fun j hj => ?_, fun j => World.frozen?_alloc_new ..⟩
  rw [World.cell?_alloc_new]
  have hl : (madeCells #[Value.bool false] m).toList = List.replicate m (Value.bool false) := toList_madeCells_one _ _
  have : (madeCells #[Value.bool false] m).toList[j]? = some (Value.bool false) := by rw [hl]; simp [hj]
  simpa using this
end Go.Proofs.YthaabkmodpnbbaaDoor

/- The walk of the law CodeErasures: it returns true. -/
namespace Go.Proofs.YthaabkmodpnbbaaDoor
open Go.RowKit
set_option linter.unusedVariables false

set_option maxRecDepth 100000 in
set_option maxHeartbeats 1000000 in
theorem erasures_any (X : Int) (A K0 N s : Nat) (lp : List Nat) (vp vl : Value) (lost : Nat → Bool) (nl : Nat) (w : World) (hT : Tab w) (hD : TabD w) (hv : validB X = true) (hA : (A : Int) % 4 = X) (hA1 : A ≤ 255) (hK1 : K0 ≤ 255) (hN : (K0 : Int) % 6 = (N : Int)) (hs : s ≤ 18446744073709551615) (hRp : Reads w vp lp) (hSp : Shape vp lp) (hRl : ReadsK w vl lost nl) (hnl : nl ≤ 9223372036854775807) :
    Calls Tryd.prog 7 #[.int .u8 (A : Int), .int .u8 (K0 : Int), .int .u64 (s : Int), vp, vl] w fun e w' => e = .returned (.bool true) ∧ On w w' := by
  have hNb : N ≤ 5 := by omega
  have hvD := shD_valid X N s hv hNb
  have HDM := Lib.hid (domain_any X A K0 0 N s w hT hv hA hA1 hK1 (by omega) (by simpa using hN) hs)
  have hSle := shD_le X s
  obtain ⟨hvf, hkg, hk2, hs0, hsp, hsn, hsb⟩ := validD_nat hvD
  have hM32 : 2 ^ N ≤ 2 ^ 5 := Nat.pow_le_pow_right (by omega) hNb
  generalize shD X s = S at *
  obtain ⟨M, hM⟩ : ∃ M, M = 2 ^ N := ⟨_, rfl⟩
  have hpw : (2 : Int) ^ N = (M : Int) := by rw [hM, Int.natCast_pow]; rfl
  rw [← hM] at hM32
  have hMb : M ≤ 32 := by omega
  have hwN : IntKind.u64.wrap (N : Int) = (N : Int) := IntWalk.u64_in _ (by omega)
  have hwM : IntKind.i64.wrap (M : Int) = (M : Int) := IntWalk.i64_in _ (by omega)
  obtain ⟨al, cl, rfl, hcl⟩ := hRl
  obtain ⟨P, hP⟩ : ∃ P, P = normF X (lp.take M) := ⟨_, rfl⟩
  have hPl : P.length ≤ M := by rw [hP]; have := normF_len X (lp.take M); rw [List.length_take] at this; omega
  have hPn : normF X P = P := by rw [hP, norm_id]
  have hpo := (valid_iff X).1 hvf
  have HVB := Lib.hid (valL_bd (k := N) (s := S) (p := P) hpo)
  have HVL : Hid ((valL X N S P).length = M) := by unfold Hid; rw [valL_len, hM]
  have HVP : Hid (∀ i, i < M → (valL X N S P).getD i 0 < pOf X) := fun i hi => by rw [valL_ptL hvf P S i (by rw [← hM]; exact hi)]; exact evF_lt _ _ hpo
  have HRD : Hid (∀ x, x < pOf X → redF X x = x) := fun x hx => by rw [redF_pos _ _ hpo, Nat.mod_eq_of_lt hx]
  have HNE : Hid (∀ x, x < pOf X → x ≠ redF X (addF X x 1)) := fun x hx => add_one_ne hvf x hx
  have HO1 := Lib.hid (fun w' (h : On w w') => w_cown2 lp M vp w' h.tab (hRp.on h) hSp (by omega))
  have HN1 : Hid (∀ (v : Value) w', On w w' → Reads w' v (lp.take M) → Calls Tryd.prog 33 #[.int .i64 X, v] w' fun e w'' => ∃ a, e = .returned (.slice a P.length P.length) ∧ Reads w'' (.slice a P.length P.length) P ∧ On w' w'') := fun v w' h hR => by
    rw [hP]; exact w_norm X _ v w' h.tab hR (by rw [List.length_take]; omega)
  have HW1 : Hid (∀ (a : Option Addr) w', On w w' → Reads w' (.slice a P.length P.length) P → Calls Tryd.prog 34 #[.agg #[.int .i64 X, .int .i64 (N : Int), .int .u64 (S : Int)], .slice a P.length P.length] w' fun e w'' => ∃ b c, e = .returned (.slice b M c) ∧ Reads w'' (.slice b M c) (valL X N S P) ∧ On w' w'') := fun a w' h hR => by
    rw [hM]; exact Go.Proofs.YthaabkmodpnbbaaDoor.word_any X N S P _ w' h.tab hvD (by omega) hR (by omega)
  have HFL : Hid (∀ (v : List Nat) (kn : Nat → Bool) (va vk : Value) w', On w w' → v.length = M → Reads w' va v → ReadsK w' vk kn M → P.length ≤ cntB kn M → (∀ i ∈ firstN kn P.length M, v.getD i 0 = (valL X N S P).getD i 0) → Calls Tryd.prog 28 #[.agg #[.int .i64 X, .int .i64 (N : Int), .int .u64 (S : Int)], va, vk, .int .i64 (P.length : Int)] w' fun e w'' =>
      (((∀ i, i < M → kn i = true → (valL X N S P).getD i 0 = redF X (v.getD i 0)) ∧ ∃ a, e = .returned (.tuple #[.slice a M M, .int .i64 0]) ∧ Reads w'' (.slice a M M) (valL X N S P)) ∨
       ((∃ i, i < M ∧ kn i = true ∧ (valL X N S P).getD i 0 ≠ redF X (v.getD i 0)) ∧ e = .returned (.tuple #[.slice none 0 0, .int .i64 7]))) ∧ On w' w'') := fun v kn va vk w' h hl hR hK hc hf => by
    subst hM
    obtain ⟨p, hp, hc2⟩ := fill_any X N S P.length v kn va vk w' h.tab hvD hl (by omega) hPl hR hK (firstN_full hc)
    rw [fill_same hvD hp hc (Nat.le_refl _) hPn hf] at hc2
    exact hc2
  have HAD : Hid (∀ (x : Nat) w', On w w' → x ≤ 18446744073709551615 → Calls Tryd.prog 37 #[.int .i64 X, .int .u64 (x : Int), .int .u64 1] w' fun e w'' => e = .returned (.int .u64 ((addF X x 1 : Nat) : Int)) ∧ w' = w'') := fun x w' h hx => add_any X x 1 w' h.tab hx (by omega)
  have HADB : Hid (∀ (x : Nat), addF X x 1 ≤ 998244353) := fun x => addF_le X x 1
  have HSM : Hid (∀ (v v' : Value) w', On w w' → Reads w' v (valL X N S P) → Reads w' v' (valL X N S P) → Calls Tryd.prog 36 #[v, v'] w' fun e w'' => e = .returned (.bool true) ∧ On w' w'') := fun v v' w' h h1 h2 => w_csame _ _ v v' w' true (by simp) h.tab h1 h2
  have HWK : Hid (∀ w', On w w' → Calls Tryd.prog 22 #[] w' fun e w'' => e = .returned (.bool true) ∧ On w' w'') := fun w' h => cworks_any w' h.tab (hD.on h)
  have HLC : Hid (∀ w', On w w' → ∀ j, j < nl → ∃ b o, al = some ⟨b, o, none⟩ ∧ w'.cell? ⟨b, o + j, none⟩ = some (.bool (lost j))) := fun w' h j hj => by
    obtain ⟨b, o, h1, h2⟩ := hcl j hj
    exact ⟨b, o, h1, cell_keep h2 h⟩
  have hl1 : (lp.take M).length ≤ 32 := by rw [List.length_take]; omega
  generalize valL X N S P = V at *
  generalize lp.take M = p0 at *
  have HMK := Lib.hid (fun wx => make_bools M (by omega) wx)
  obtain ⟨K1, hK1e⟩ : ∃ K1 : Nat → Bool, K1 = fun j => decide (nl ≤ j) || !lost j := ⟨_, rfl⟩
  have HK1 : Hid (∀ j, K1 j = (decide (nl ≤ j) || !lost j)) := fun j => by rw [hK1e]
  have HT := Lib.hid hT
  clear hP hPn hRp hSp hT hD hv hvD hvf hkg hk2 hs0 hsp hsn hsb hA hN hM hpo hcl hK1e
  generalize P.length = np at *
  go_enter Tryd.func7, Tryd.ntmps7
  go_wp2_with fail
  go_at_call 32
  refine HDM.out.mono ?_
  rintro e w1 ⟨rfl, hO1⟩
  have hOu := hO1.alloc (.cells #[.int .i64 X, .int .i64 (N : Int), .int .u64 (S : Int)] 24)
  have hS0 := dom_new w1 (.int .i64 X) (.int .i64 (N : Int)) (.int .u64 (S : Int)) 24
  obtain ⟨u, hu⟩ : ∃ u, u = w1.alloc (.cells #[.int .i64 X, .int .i64 (N : Int), .int .u64 (S : Int)] 24) := ⟨_, rfl⟩
  rw [← hu] at hOu hS0
  have HU := Lib.hid hu
  have HOU := Lib.hid hOu
  have HSB : Hid (∀ w', On u w' → w'.cell? ⟨w1.heap.size, 0, none⟩ = some (.int .i64 X) ∧ w'.cell? ⟨w1.heap.size, 1, none⟩ = some (.int .i64 (N : Int)) ∧ w'.cell? ⟨w1.heap.size, 2, none⟩ = some (.int .u64 (S : Int))) := fun w' h => dom_on hS0 h
  have hud : On u u.drew := (On.refl hOu.tab).drew
  have s0 := HSB.out _ (On.refl hOu.tab)
  clear hO1 hOu hS0 HDM hu
  obtain ⟨e0, e1, e2⟩ := s0
  go_wp2_with fail
  rw [← HU.out]
  have s0 := HSB.out _ hud
  clear e0 e1 e2
  go_region_held3 (fun w' => w'.cell? ⟨w1.heap.size, 0, none⟩ = some (.int .i64 X) ∧ w'.cell? ⟨w1.heap.size, 1, none⟩ = some (.int .i64 (N : Int)) ∧ w'.cell? ⟨w1.heap.size, 2, none⟩ = some (.int .u64 (S : Int))) (first | assumption) (first
    | (go_at_call 27; with_reducible refine (HO1.out _ (On.trans HOU.out hud)).mono ?_; rintro e w5 ⟨a5, c5, rfl, hr5, -, hO5⟩; have h5 := On.trans hud hO5; have s5 := HSB.out _ h5)
    | (go_at_call 33; with_reducible refine (HN1.out _ _ (On.trans HOU.out h5) hr5).mono ?_; rintro e w6 ⟨a6, rfl, hr6, hO6⟩; have h6 := On.trans h5 hO6; have s6 := HSB.out _ h6)
    | fail)
  have RP := Lib.hid hr6
  have HO6 := Lib.hid h6
  clear hr5 hr6 h5 h6 hO5 hO6 s5 s0 hud HO1 HN1
  obtain ⟨e0, e1, e2⟩ := s6
  go_wp2_with (first
    | (go_at_call 34; with_reducible refine (HW1.out _ _ (On.trans HOU.out HO6.out) RP.out).mono ?_; rintro e w9 ⟨a9, c9, rfl, hr9, hO9⟩; have HO9 := Lib.hid (HO6.out.trans hO9); have RV := Lib.hid hr9; have hmk := HMK.out w9; clear hr9 hO9 e0 e1 e2)
    | fail)
  clear hmk
  have HMB := Lib.hid (bb_made w9 M)
  have HOV := Lib.hid HO9.out
  have HO10 : Hid (On w9 (w9.alloc (.cells (madeCells #[.bool false] M) 4))) := (On.refl HO9.out.tab).alloc _
  go_loopw [16, 17] (fun vm vi wr => ∃ (i c : Nat), i ≤ M ∧ c ≤ i ∧ vi = .int .i64 (i : Int) ∧ vm = .int .i64 (c : Int) ∧ Hid (c = cntB K1 i) ∧ Hid (BB w9.heap.size M wr (fun j => if j < i then K1 j else false)) ∧ Hid (On w9 wr)) (fun _ vi _ => M - (intOf vi).toNat)
  case atStart => exact ⟨0, 0, Nat.zero_le _, Nat.le_refl _, rfl, rfl, rfl, HMB.out.eq (fun j hj => if_neg (by omega)), HO10.out⟩
  case round =>
    obtain ⟨i, c, hi, hci, rfl, rfl, HC, HBB, HON⟩ := hrel
    by_cases hlt : i < M
    · have hcell : wr.cell? ⟨w9.heap.size, i, none⟩ = some (.bool (if i < i then K1 i else false)) := HBB.out.2.1 i hlt
      rw [if_neg (Nat.lt_irrefl i)] at hcell
      have hfr := HBB.out.2.2 i
      have hcs : (nl ≤ i ∧ K1 i = true) ∨ (i < nl ∧ lost i = false ∧ K1 i = true) ∨ (i < nl ∧ lost i = true ∧ K1 i = false) := by
        rw [HK1.out i]
        by_cases h : nl ≤ i
        · exact .inl ⟨h, by simp [h]⟩
        · cases hlo : lost i
          · exact .inr (.inl ⟨by omega, rfl, by simp⟩)
          · exact .inr (.inr ⟨by omega, rfl, by simp [h]⟩)
      have hcnt := cntB_succ K1 i
      have hsb : ∀ b, K1 i = b → BB w9.heap.size M (wr.setCell ⟨w9.heap.size, i, none⟩ (.bool b)) (fun j => if j < i + 1 then K1 j else false) := fun b hb => (HBB.out.set i b hlt).eq fun j hj => by
        by_cases e : j = i
        · subst e; rw [if_pos (by omega), if_pos rfl, hb]
        · rw [if_neg e]
          by_cases h2 : j < i
          · rw [if_pos (by omega), if_pos h2]
          · rw [if_neg (by omega), if_neg h2]
      have HSBB := Lib.hid hsb
      clear hsb
      rcases hcs with ⟨h1, h2⟩ | ⟨h1, h2, h3⟩ | ⟨h1, h2, h3⟩
      · have HB2 := Lib.hid (HSBB.out true h2)
        have HC2 : Hid (c + 1 = cntB K1 (i + 1)) := by unfold Hid; rw [hcnt, if_pos h2, HC.out]
        have hc2 : (wr.setCell ⟨w9.heap.size, i, none⟩ (.bool true)).cell? ⟨w9.heap.size, i, none⟩ = some (.bool (if i < i + 1 then K1 i else false)) := HB2.out.2.1 i hlt
        rw [if_pos (Nat.lt_succ_self i), h2] at hc2
        have HO2 := Lib.hid (HON.out.setCell (p := ⟨w9.heap.size, i, none⟩) (Nat.le_refl _) (.bool true))
        clear hcnt HSBB h2
        go_wp2
        go_roundw
        case rel => exact ⟨i + 1, c + 1, by omega, by omega, by go_num, by go_num, HC2, HB2, HO2⟩
        case measure => simp [intOf]; omega
      · have HB2 := Lib.hid (HSBB.out true h3)
        have HC2 : Hid (c + 1 = cntB K1 (i + 1)) := by unfold Hid; rw [hcnt, if_pos h3, HC.out]
        have hc2 : (wr.setCell ⟨w9.heap.size, i, none⟩ (.bool true)).cell? ⟨w9.heap.size, i, none⟩ = some (.bool (if i < i + 1 then K1 i else false)) := HB2.out.2.1 i hlt
        rw [if_pos (Nat.lt_succ_self i), h3] at hc2
        have HO2 := Lib.hid (HON.out.setCell (p := ⟨w9.heap.size, i, none⟩) (Nat.le_refl _) (.bool true))
        obtain ⟨bL, oL, rfl, hcL⟩ := HLC.out wr (HOU.out.trans (HOV.out.trans HON.out)) i h1
        rw [h2] at hcL
        clear hcnt HSBB h2 h3
        go_wp2
        go_roundw
        case rel => exact ⟨i + 1, c + 1, by omega, by omega, by go_num, by go_num, HC2, HB2, HO2⟩
        case measure => simp [intOf]; omega
      · have HB2 := Lib.hid (HSBB.out false h3)
        have HC2 : Hid (c = cntB K1 (i + 1)) := by unfold Hid; rw [hcnt, if_neg (by rw [h3]; exact Bool.false_ne_true), HC.out]; rfl
        have hc2 : (wr.setCell ⟨w9.heap.size, i, none⟩ (.bool false)).cell? ⟨w9.heap.size, i, none⟩ = some (.bool (if i < i + 1 then K1 i else false)) := HB2.out.2.1 i hlt
        rw [if_pos (Nat.lt_succ_self i), h3] at hc2
        have HO2 := Lib.hid (HON.out.setCell (p := ⟨w9.heap.size, i, none⟩) (Nat.le_refl _) (.bool false))
        obtain ⟨bL, oL, rfl, hcL⟩ := HLC.out wr (HOU.out.trans (HOV.out.trans HON.out)) i h1
        rw [h2] at hcL
        clear hcnt HSBB h2 h3
        go_wp2
        go_roundw
        case rel => exact ⟨i + 1, c, by omega, by omega, by go_num, by go_num, HC2, HB2, HO2⟩
        case measure => simp [intOf]; omega
    · obtain rfl : M = i := by omega
      have HB0 := Lib.hid (HBB.out.eq (L := fun j => K1 j || decide (j < 0)) fun j hj => by rw [if_pos hj]; simp)
      have HC0 : Hid (c = cntB (fun j => K1 j || decide (j < 0)) M) := by unfold Hid; rw [HC.out]; exact cntB_congr fun j _ => by simp
      have HON0 := Lib.hid HON.out
      have hcM : c ≤ M := hci
      clear HBB HC hlt hi hci HMB HO10 HON
      go_wp2_with fail
      go_loopw [16, 18] (fun vm vi wq => ∃ (i c : Nat), i ≤ M ∧ c ≤ M ∧ vi = .int .i64 (i : Int) ∧ vm = .int .i64 (c : Int) ∧ Hid (c = cntB (fun j => K1 j || decide (j < i)) M) ∧ Hid (BB w9.heap.size M wq (fun j => K1 j || decide (j < i))) ∧ Hid (On w9 wq)) (fun _ vi _ => M - (intOf vi).toNat)
      case atStart => exact ⟨0, c, Nat.zero_le _, hcM, rfl, rfl, HC0, HB0, HON0⟩
      case round =>
        clear HB0 HC0 HON0 hcM
        obtain ⟨i, c, hi, hcM, rfl, rfl, HC, HBB, HON⟩ := hrel
        by_cases hgo : i < M ∧ c < np
        · obtain ⟨hlt, hcn⟩ := hgo
          have hcell : wr.cell? ⟨w9.heap.size, i, none⟩ = some (.bool (K1 i || decide (i < i))) := HBB.out.2.1 i hlt
          rw [decide_eq_false (Nat.lt_irrefl i), Bool.or_false] at hcell
          have hfr := HBB.out.2.2 i
          have hk : K1 i = true ∨ K1 i = false := by cases K1 i <;> simp
          rcases hk with hk | hk
          · have heq : ∀ j, (K1 j || decide (j < i + 1)) = (K1 j || decide (j < i)) := fun j => by
              by_cases e : j = i
              · subst e; rw [hk]; simp
              · rw [show decide (j < i + 1) = decide (j < i) from by congr 1; exact propext (by omega)]
            have HC2 : Hid (c = cntB (fun j => K1 j || decide (j < i + 1)) M) := by unfold Hid; rw [HC.out]; exact cntB_congr fun j _ => (heq j).symm
            have HB2 := Lib.hid (HBB.out.eq (L := fun j => K1 j || decide (j < i + 1)) fun j _ => heq j)
            rw [hk] at hcell
            clear heq hk
            go_wp2
            go_roundw
            case rel => exact ⟨i + 1, c, by omega, hcM, by go_num, rfl, HC2, HB2, HON⟩
            case measure => simp [intOf]; omega
          · have heq : ∀ j, (K1 j || decide (j < i + 1)) = (if j = i then true else (K1 j || decide (j < i))) := fun j => by
              by_cases e : j = i
              · subst e; rw [if_pos rfl]; simp
              · rw [if_neg e, show decide (j < i + 1) = decide (j < i) from by congr 1; exact propext (by omega)]
            have HC2 : Hid (c + 1 = cntB (fun j => K1 j || decide (j < i + 1)) M) := by
              unfold Hid
              rw [HC.out, cntB_congr (L := fun j => if j = i then true else (K1 j || decide (j < i))) fun j _ => heq j]
              exact (cntB_set hlt (by rw [hk]; simp)).symm
            have HB2 := Lib.hid ((HBB.out.set i true hlt).eq (L := fun j => K1 j || decide (j < i + 1)) fun j _ => heq j)
            have HO2 := Lib.hid (HON.out.setCell (p := ⟨w9.heap.size, i, none⟩) (Nat.le_refl _) (.bool true))
            have hc1 : c + 1 ≤ M := by rw [HC2.out]; exact cntB_le _ _
            rw [hk] at hcell
            clear heq hk
            go_wp2
            go_roundw
            case rel => exact ⟨i + 1, c + 1, by omega, hc1, by go_num, by go_num, HC2, HB2, HO2⟩
            case measure => simp [intOf]; omega
        · have HEXIT : np ≤ c := by
            by_cases h1 : i < M
            · have : ¬ c < np := fun h => hgo ⟨h1, h⟩
              omega
            · have h2 : c = M := by rw [HC.out]; exact cntB_all fun j hj => by simp; right; omega
              omega
          have hst : ¬ i < M ∨ (i < M ∧ ¬ c < np) := by
            by_cases h1 : i < M
            · exact .inr ⟨h1, fun h => hgo ⟨h1, h⟩⟩
            · exact .inl h1
          clear hgo
          rename World => w10
          obtain ⟨kn, hkn⟩ : ∃ kn : Nat → Bool, kn = fun j => K1 j || decide (j < i) := ⟨_, rfl⟩
          rw [← hkn] at HC HBB
          have HCC := Lib.hid HC.out
          have RV0 := Lib.hid (RV.out.on HON.out)
          have HOw := Lib.hid (HOV.out.trans HON.out)
          have HSOM := Lib.hid (fun i h => someL_le HVB.out kn i h)
          rcases hst with h1 | ⟨h1, h2⟩
          all_goals
            go_wp2_with fail
            go_loopw [19, 20, 21] (fun vx vt vi wq => ∃ (i3 : Nat) (ax : Option Addr) (cx : Nat) (lv : Int), i3 ≤ M ∧ vi = .int .i64 (i3 : Int) ∧ vx = .slice ax i3 cx ∧ vt = .int .i64 lv ∧ Hid (Ow w10.heap.size wq (.slice ax i3 cx) (someL V kn i3)) ∧ Hid (On w10 wq) ∧ Hid ((lv = -1 ∧ ∀ j, j < i3 → kn j = false) ∨ ∃ t : Nat, t < i3 ∧ lv = (t : Int) ∧ kn t = true ∧ ∀ j, t < j → j < i3 → kn j = false)) (fun _ _ vi _ => M - (intOf vi).toNat)
            case atStart => exact ⟨0, none, 0, -1, Nat.zero_le _, rfl, rfl, rfl, by unfold Hid; exact Ow.nil _ _, On.refl HOw.out.tab, .inl ⟨rfl, fun j hj => by omega⟩⟩
            case round =>
              obtain ⟨i3, ax, cx, lv, hi3, rfl, rfl, rfl, HW3, HO3, HLV⟩ := hrel
              by_cases hl3 : i3 < M
              · have hkc := (HBB.out.on HO3.out).2.1 i3 hl3
                obtain ⟨-, hcV⟩ := reads_opt (HVL.out.symm ▸ (RV0.out.on HO3.out))
                obtain ⟨bV, oV, hbv, hcellV⟩ := hcV i3 (by rw [HVL.out]; exact hl3)
                have hst := someL_succ V kn i3
                have hyb := HVB.out _ (getD_mem V i3 (by rw [HVL.out]; exact hl3))
                have hwi : IntKind.u64.wrap (i3 : Int) = (i3 : Int) := IntWalk.u64_in _ (by omega)
                have HAP : Hid (∀ y, (if kn i3 = true then V.getD i3 0 else i3) = y → ∃ a c w2, (∀ ty, (Builtin.append_ #[33, 33] ty #[.slice ax i3 cx, .slice (some ⟨wr.heap.size, 0, none⟩) 1 1]).run Tryd.prog (wr.alloc (.cells #[.int .u64 (y : Int)] 22)) = .ok (.slice a (i3 + 1) c) w2) ∧ Ow w10.heap.size w2 (.slice a (i3 + 1) c) (someL V kn (i3 + 1)) ∧ On w10 w2) := fun y hy => by
                  obtain ⟨v', w2, h1, h2, h3, h4⟩ := append_own w10.heap.size y _ rfl (someL V kn i3) (.slice ax i3 cx) wr wr.heap.size rfl HW3.out HO3.out.size (by rw [someL_len]; omega)
                  rw [← hy, ← hst] at h2
                  obtain ⟨a, c, rfl⟩ := h2.shape
                  rw [someL_len] at h1 h2
                  exact ⟨a, c, w2, h1, h2, HO3.out.grown (Nat.le_refl _) HW3.out h3⟩
                have hlv1 : kn i3 = true → (((i3 : Int) = -1 ∧ ∀ j, j < i3 + 1 → kn j = false) ∨ ∃ t : Nat, t < i3 + 1 ∧ (i3 : Int) = (t : Int) ∧ kn t = true ∧ ∀ j, t < j → j < i3 + 1 → kn j = false) := fun h => .inr ⟨i3, by omega, rfl, h, fun j h1 h2 => by omega⟩
                have hlv2 : kn i3 = false → ((lv = -1 ∧ ∀ j, j < i3 + 1 → kn j = false) ∨ ∃ t : Nat, t < i3 + 1 ∧ lv = (t : Int) ∧ kn t = true ∧ ∀ j, t < j → j < i3 + 1 → kn j = false) := fun h => by
                  rcases HLV.out with ⟨h1, h2⟩ | ⟨t, h1, h2, h3, h4⟩
                  · exact .inl ⟨h1, fun j hj => by
                      by_cases e : j = i3
                      · rw [e]; exact h
                      · exact h2 j (by omega)⟩
                  · exact .inr ⟨t, by omega, h2, h3, fun j h5 h6 => by
                      by_cases e : j = i3
                      · rw [e]; exact h
                      · exact h4 j h5 (by omega)⟩
                have HLV1 := Lib.hid hlv1; have HLV2 := Lib.hid hlv2
                clear hst hlv1 hlv2 hcV
                subst hbv
                have hkk : kn i3 = true ∨ kn i3 = false := by cases kn i3 <;> simp
                rcases hkk with hk | hk
                · have hl9 := Lib.hid (HLV1.out hk)
                  obtain ⟨a2, c2, w2, hr2, ho2, hw2⟩ := HAP.out (V.getD i3 0) (if_pos hk)
                  have HR2 := Lib.hid hr2; have HO2 := Lib.hid ho2; have HW2 := Lib.hid hw2
                  rw [hk] at hkc
                  clear hr2 ho2 hw2 HAP HLV1 HLV2 hk
                  generalize V.getD i3 0 = y at *
                  go_wp2_with (at_builtin; refine wp_append2 rfl (.tmp 103) (.tmp 108) _ _ rfl _ _ _ rfl rfl HR2.out ?_)
                  go_roundw
                  case rel => exact ⟨i3 + 1, a2, c2, i3, by omega, by go_num, rfl, rfl, HO2, HW2, hl9⟩
                  case measure => simp [intOf]; omega
                · have hl9 := Lib.hid (HLV2.out hk)
                  obtain ⟨a2, c2, w2, hr2, ho2, hw2⟩ := HAP.out i3 (if_neg (by rw [hk]; exact Bool.false_ne_true))
                  have HR2 := Lib.hid hr2; have HO2 := Lib.hid ho2; have HW2 := Lib.hid hw2
                  rw [hk] at hkc
                  clear hr2 ho2 hw2 HAP HLV1 HLV2 hk
                  go_wp2_with (at_builtin; refine wp_append2 rfl (.tmp 111) (.tmp 114) _ _ rfl _ _ _ rfl rfl HR2.out ?_)
                  go_roundw
                  case rel => exact ⟨i3 + 1, a2, c2, lv, by omega, by go_num, rfl, rfl, HO2, HW2, hl9⟩
                  case measure => simp [intOf]; omega
              · obtain rfl : M = i3 := by omega
                have hcM' : c ≤ M := hcM
                have HRS := Lib.hid (HW3.out.reads (HSOM.out M (by omega)))
                have HBK := Lib.hid (HBB.out.on HO3.out)
                have HO3w := Lib.hid (HOw.out.trans HO3.out)
                have hF := HFL.out (someL V kn M) kn _ _ wr (HOU.out.trans HO3w.out) (someL_len V kn M) HRS.out (HBK.out.reads M) (by rw [← HCC.out]; exact HEXIT) (fun j hj => by
                  have := firstN_mem hj
                  rw [someL_getD _ _ _ _ this.1, if_pos this.2])
                have HF := Lib.hid hF
                have HGOOD : Hid (¬ ∃ i, i < M ∧ kn i = true ∧ V.getD i 0 ≠ redF X ((someL V kn M).getD i 0)) := fun ⟨j, h1, h2, h3⟩ => h3 (by rw [someL_getD _ _ _ _ h1, if_pos h2, HRD.out _ (HVP.out j h1)])
                obtain ⟨e0, e1, e2⟩ := HSB.out _ HO3w.out
                clear hF
                go_wp2_with fail
                go_at_call 28
                with_reducible refine HF.out.mono ?_
                rintro e w11 ⟨⟨-, a11, rfl, hr11⟩ | ⟨hbad, -⟩, hO11⟩
                rotate_left
                · exact absurd hbad HGOOD.out
                have HO11 := Lib.hid hO11
                have R11 := Lib.hid hr11
                have RV11 := Lib.hid ((RV0.out.on HO3.out).on hO11)
                have HO11u := Lib.hid (HO3w.out.trans hO11)
                clear hO11 hr11 e0 e1 e2
                go_wp2_with fail
                go_at_call 36
                with_reducible refine (HSM.out _ _ _ (HOU.out.trans HO11u.out) R11.out RV11.out).mono ?_
                rintro e w12 ⟨rfl, hO12⟩
                have HO12u := Lib.hid (HO11u.out.trans hO12)
                have HO12 := Lib.hid (HO11.out.trans hO12)
                clear hO12
                by_cases hcn : c ≤ np
                · have hci : (c : Int) ≤ (np : Int) := by omega
                  go_wp2_with (go_at_call 22; with_reducible refine (HWK.out _ (HOU.out.trans HO12u.out)).mono ?_; rintro e w13 ⟨rfl, hO⟩; have HO13 := Lib.hid (HO12u.out.trans hO); clear hO)
                  go_ret
                  exact ⟨rfl, HOU.out.trans HO13.out⟩
                · have hlast : ∃ t : Nat, t < M ∧ lv = (t : Int) ∧ kn t = true ∧ ∀ j, t < j → j < M → kn j = false := by
                    rcases HLV.out with ⟨h1, h2⟩ | h
                    · exfalso
                      have : cntB kn M = 0 := by
                        rw [cntB_congr (L := fun _ => false) h2]
                        unfold cntB; simp
                      have := HCC.out
                      omega
                    · exact h
                  obtain ⟨t, ht, rfl, hkt, hlt⟩ := hlast
                  have hci : ¬ (c : Int) ≤ (np : Int) := by omega
                  have ht0 : (0 : Int) ≤ (t : Int) := by omega
                  have htM : (t : Int) < (M : Int) := by omega
                  have hW12 := HW3.out.on HO12.out
                  obtain ⟨g, cap, hge, hgb, hrow⟩ : ∃ g cap, Value.slice ax M cx = .slice (some ⟨g, 0, none⟩) (someL V kn M).length cap ∧ w10.heap.size ≤ g ∧ Row g cap w12 (someL V kn M) := by
                    rcases hW12.cases with ⟨h1, -⟩ | h
                    · have := congrArg List.length h1
                      rw [someL_len] at this
                      simp at this
                      omega
                    · exact h
                  rw [someL_len] at hge
                  simp only [Value.slice.injEq, true_and] at hge
                  obtain ⟨rfl, rfl⟩ := hge
                  have hblk := hrow.blk
                  have hct := hblk.cell t (by rw [someL_len]; exact ht)
                  rw [someL_getD _ _ _ _ ht, if_pos hkt] at hct
                  have hft := hblk.free t
                  have hyb := HVB.out _ (getD_mem V t (by rw [HVL.out]; exact ht))
                  have hyp := HVP.out t ht
                  have hzb := HADB.out (V.getD t 0)
                  obtain ⟨z, hz⟩ : ∃ z, z = addF X (V.getD t 0) 1 := ⟨_, rfl⟩
                  have HAT := Lib.hid (fun nq => HAD.out (V.getD t 0) (w12.drewN nq) ((HOU.out.trans HO12u.out).drewN nq) hyb)
                  have hne := HNE.out _ hyp
                  rw [← hz] at hzb HAT hne
                  have HST : Hid (∀ nq, Blk g ((w12.drewN nq).setCell ⟨g, t, none⟩ (.int .u64 ((z : Nat) : Int))) ((someL V kn M).set t z)) := fun nq => (hblk.drewN nq).set t z (by rw [someL_len]; exact ht)
                  have HON14 : Hid (∀ nq, On w10 ((w12.drewN nq).setCell ⟨g, t, none⟩ (.int .u64 ((z : Nat) : Int)))) := fun nq => ((HO3.out.trans HO12.out).drewN nq).setCell hgb _
                  have HOU14 : Hid (∀ nq, On u ((w12.drewN nq).setCell ⟨g, t, none⟩ (.int .u64 ((z : Nat) : Int)))) := fun nq => HOw.out.trans (HON14.out nq)
                  have hsetD : ∀ j, ((someL V kn M).set t z).getD j 0 = if j = t then z else (someL V kn M).getD j 0 := fun j => by
                    rw [List.getD_eq_getElem?_getD, List.getElem?_set, List.getD_eq_getElem?_getD]
                    by_cases e : t = j
                    · rw [if_pos e, if_pos e.symm, if_pos (by rw [someL_len]; omega)]; rfl
                    · rw [if_neg e, if_neg (fun h => e h.symm)]
                  have hsle : ∀ x ∈ (someL V kn M).set t z, x ≤ 18446744073709551615 := fun x hx => by
                    rcases List.mem_or_eq_of_mem_set hx with h | h
                    · exact HSOM.out M (by omega) x h
                    · rw [h]; omega
                  have hF2 : ∀ nq, _ := fun nq => HFL.out ((someL V kn M).set t z) kn (.slice (some ⟨g, 0, none⟩) M cx) _ ((w12.drewN nq).setCell ⟨g, t, none⟩ (.int .u64 ((z : Nat) : Int))) (HOU.out.trans (HOU14.out nq)) (by rw [List.length_set, someL_len])
                    (by have h := (HST.out nq).reads hsle (by rw [List.length_set, someL_len]; omega) cx; rw [List.length_set, someL_len] at h; exact h) ((HBB.out.on (HON14.out nq)).reads M) (by rw [← HCC.out]; exact HEXIT) (fun j hj => by
                      have hm := firstN_mem hj
                      have hjt := firstN_last ht hkt hlt (by rw [← HCC.out]; omega) j hj
                      rw [hsetD, if_neg hjt, someL_getD _ _ _ _ hm.1, if_pos hm.2])
                  have HF2 := Lib.hid hF2
                  have HBAD : Hid (¬ ∀ i, i < M → kn i = true → V.getD i 0 = redF X (((someL V kn M).set t z).getD i 0)) := fun h => by
                    have := h t ht hkt
                    rw [hsetD, if_pos rfl] at this
                    exact hne this
                  obtain ⟨e0, e1, e2⟩ := HSB.out _ HO12u.out
                  clear hF2 hsetD hsle hz hne hyp hrow hblk hW12 hkt hlt HFL HF HGOOD
                  generalize V.getD t 0 = y at *
                  go_wp2_with fail
                  refine region_quiet_tail 10 (by kernel_rfl) (by kernel_rfl) ?_
                  simp only [List.take_succ_cons, List.take_zero, List.drop_succ_cons, List.drop_zero]
                  repeat (quiet_step ((go_at_call 37; exact quiet_of_eq (HAT.out _))))
                  refine wpQuiet_nil ?_
                  intro _ hw'
                  obtain ⟨nq, hw''⟩ := hw'
                  subst hw''
                  have hct2 : (w12.drewN nq).cell? ⟨g, t, none⟩ = _ := hct
                  have hft2 : (w12.drewN nq).frozen? ⟨g, t, none⟩ = false := hft
                  clear e0 e1 e2
                  obtain ⟨e0, e1, e2⟩ := HSB.out _ (HOU14.out nq)
                  go_wp2_with fail
                  go_at_call 28
                  refine (HF2.out nq).mono ?_
                  rintro e w15 ⟨⟨hall, -⟩ | ⟨-, rfl⟩, hO15⟩
                  · exact absurd hall HBAD.out
                  have HO15 := Lib.hid ((HOU14.out nq).trans hO15)
                  clear hO15
                  go_wp2_with (go_at_call 22; with_reducible refine (HWK.out _ (HOU.out.trans HO15.out)).mono ?_; rintro e w13 ⟨rfl, hO⟩; have HO13 := Lib.hid (HO15.out.trans hO); clear hO)
                  go_ret
                  exact ⟨rfl, HOU.out.trans HO13.out⟩
end Go.Proofs.YthaabkmodpnbbaaDoor

/- CodeErasures returns true, for every input; no conditions but the tied tables. -/
namespace Go.Proofs.YthaabkmodpnbbaaDoor.codeErasures
open Go.ChangeShapes Go.WideShapes Go.ChangeAt Go.RowKit
set_option linter.unusedVariables false

theorem trodAll_five {H : Type} {enc : TypeId × Value → H} {P : Program} {w : World} {base : Nat} {spare : Nat → Bool} {held : Bool} {t0 t1 t2 t3 t4 : TypeId} {args : Array Value} {ds : List (DataW H)} {ps : List MemPlace} (h : DataW.TrodAll enc P w base spare held [t0, t1, t2, t3, t4] args.toList ds ps) :
    ∃ v0 v1 v2 v3 v4 d0 d1 d2 d3 d4 p0 p1 p2 p3 p4, args = #[v0, v1, v2, v3, v4] ∧ ds = [d0, d1, d2, d3, d4] ∧ ps = p0 ++ p1 ++ p2 ++ p3 ++ p4 ∧ DataW.Trod enc P w base spare held t0 v0 d0 p0 ∧ DataW.Trod enc P w base spare held t1 v1 d1 p1 ∧ DataW.Trod enc P w base spare held t2 v2 d2 p2 ∧ DataW.Trod enc P w base spare held t3 v3 d3 p3 ∧ DataW.Trod enc P w base spare held t4 v4 d4 p4 := by
  obtain ⟨v0, vs, d0, ds', p0, q, hargs, rfl, rfl, h0, h⟩ := trodAll_cons h
  obtain ⟨v1, vs, d1, ds', p1, q, rfl, rfl, rfl, h1, h⟩ := trodAll_cons h
  obtain ⟨v2, vs, d2, ds', p2, q, rfl, rfl, rfl, h2, h⟩ := trodAll_cons h
  obtain ⟨v3, vs, d3, ds', p3, q, rfl, rfl, rfl, h3, h⟩ := trodAll_cons h
  obtain ⟨v4, vs, d4, ds', p4, q, rfl, rfl, rfl, h4, h⟩ := trodAll_cons h
  obtain ⟨rfl, rfl, rfl⟩ := trodAll_nil h
  exact ⟨v0, v1, v2, v3, v4, d0, d1, d2, d3, d4, p0, p1, p2, p3, p4, by cases args; simp_all, rfl, by simp, h0, h1, h2, h3, h4⟩

set_option maxRecDepth 100000 in
theorem lifted (os : Os) (started : os.Started) (H : Type) (enc : TypeId × Value → H) :
    ReturnsInHanded {} Tryd.checked os 7 .any (fun w args => (Rows.codeErasuresSpec.pre enc Tryd.prog Tryd.f7 Rows.codeErasuresRow.domain false w args ∧ laidMetH Tryd.prog laidL w) ∧ sizedMet enc Tryd.prog Tryd.f7 (OpenSpec.ofChange Rows.codeErasuresSpec) false w args)
      (Rows.codeErasuresSpec.post enc Tryd.prog Tryd.f7 false true false false) := by
  refine returnsInHanded_of_change_and (C := Tryd.checked) (X := fun w _ => laidMetH Tryd.prog laidL w) (fun _ _ _ hh h => h.of_heap hh) own started (by kernel_rfl) Tryd.func7
    (ChangeSpec.witness_shaped (enc := enc) (C := Tryd.checked) (os := os) (X := fun w _ => laidMetH Tryd.prog laidL w) false (World.laidAll Tryd.prog os laidL) #[.int .u8 0, .int .u8 0, .int .u64 0, .slice none 0 0, .slice none 0 0] 8 (World.laidAll_os _ _ _)
      (World.shaped_of_ZipB (by kernel_rfl) (by kernel_rfl)) (by kernel_rfl) (by kernel_rfl) (by kernel_rfl)
      (by rw [MakeChecks.laidMetH_plain _ _ _ (by kernel_rfl)]; exact laidMet_laidAll _ (by kernel_rfl) (by kernel_rfl))) ?_
  intro W base args ds gs before hval0 hW hc _ hL _
  have hval : ∀ (j : Nat) t v, Tryd.f7.params[j]? = some t → args[j]? = some v → Value.okWide Tryd.prog W .any base t v := hval0
  have hW' := hW
  obtain ⟨p, q, hA0, hV, rfl, _, _⟩ := hW
  have hA : DataW.TrodAll enc Tryd.prog W 0 (fun _ => true) true Tryd.f7.params.toList args.toList ds p := hA0
  rw [Tryd.params7] at hA hval
  obtain ⟨v0, v1, v2, v3, v4, d0, d1, d2, d3, d4, p0, p1, p2, p3, p4, rfl, rfl, rfl, h0, h1, h2, h3, h4⟩ := trodAll_five hA
  obtain ⟨rfl, rfl⟩ := trodVars_none hV
  obtain ⟨x0, rfl, rfl, rfl, wx0⟩ := open_int Tryd.underlying5 (hval 0 5 v0 rfl rfl) h0
  have b0 := bounds_u8 wx0
  obtain ⟨n0, rfl⟩ : ∃ n : Nat, x0 = n := ⟨x0.toNat, by omega⟩
  obtain ⟨x1, rfl, rfl, rfl, wx1⟩ := open_int Tryd.underlying5 (hval 1 5 v1 rfl rfl) h1
  have b1 := bounds_u8 wx1
  obtain ⟨n1, rfl⟩ : ∃ n : Nat, x1 = n := ⟨x1.toNat, by omega⟩
  obtain ⟨x2, rfl, rfl, rfl, wx2⟩ := open_int Tryd.underlying22 (hval 2 22 v2 rfl rfl) h2
  have b2 := bounds_u64 wx2
  obtain ⟨n2, rfl⟩ : ∃ n : Nat, x2 = n := ⟨x2.toNat, by omega⟩
  obtain ⟨l3, hR3, hz3⟩ := arg_list (hval 3 33 v3 rfl rfl) h3
  obtain ⟨m4, K4, hK4⟩ := arg_bools (hval 4 43 v4 rfl rfl) h4
  clear hA0 hval0
  simp only [List.append_nil] at hW'
  have hT := tab_of_laid hL
  have hD := tabd_of_laid hL
  have fin : Calls Tryd.prog 7 #[.int .u8 (n0 : Int), .int .u8 (n1 : Int), .int .u64 (n2 : Int), v3, v4] W fun e w' => e = .returned (.bool true) ∧ On W w' := by
    have hv : validB ((n0 : Int) % 4) = true := by unfold validB; simp; omega
    obtain ⟨N, hN⟩ : ∃ N : Nat, (n1 : Int) % 6 = (N : Int) := ⟨((n1 : Int) % 6).toNat, by omega⟩
    obtain ⟨hKR, hKL⟩ := hK4
    exact erasures_any _ n0 n1 N n2 l3 _ _ K4 m4 W hT hD hv rfl (by omega) (by omega) hN (by omega) hR3 hz3 hKR hKL
  refine fin.mono fun e W' ⟨he, hg⟩ => ?_
  subst he
  exact ⟨_, rfl, law_ends hW' rfl rfl rfl (by kernel_rfl) hg.2⟩

theorem row_holds : Rows.CodeErasuresSaid :=
  OpenClaim.holds_of_wide 7 Tryd.f7 rfl rfl rfl rfl rfl rfl rfl ⟨rfl, rfl, rfl, rfl, rfl⟩ rfl rfl rfl rfl rfl (by kernel_rfl) Tryd.func7 (by kernel_rfl)
    (of_decide_eq_true (by kernel_rfl)) (by unfold Func.isWrapper; first | (rw [if_pos (by decide +kernel)]; kernel_rfl) | (rw [if_neg (by decide +kernel)]; exact ⟨rfl, rfl⟩))
    (fun os started H enc _ => lifted os started H enc)
theorem card_holds : Rows.CodeErasuresCardSaid :=
  Claim7.holds_tied_plain_at .later [] [.data, .data, .data] true Rows.codeErasuresCard.stood.harness false row_holds (fun _ h => by cases h) (by kernel_rfl) (fun _ h => by cases h) codeErasures_row_tie rfl ⟨rfl, rfl⟩ (by kernel_rfl) rfl
    (fun f fn hf hfn => by
      obtain rfl : f = 7 := Option.some.inj ((show Tryd.prog.funcNamed "attestor/attestorlaw05.CodeErasures" = some 7 by kernel_rfl).symm.trans hf) |>.symm
      obtain rfl : fn = Tryd.f7 := (Option.some.inj (Tryd.func7.symm.trans hfn)).symm
      exact ⟨by kernel_rfl, fun j t ht => by
        rw [Tryd.params7] at ht
        have hm : t ∈ [5, 5, 22, 33, 43] := by simpa using Array.mem_of_getElem? ht
        have hall : ([5, 5, 22, 33, 43].all fun u => !Tryd.prog.wantsStandIn u) = true := by kernel_rfl
        exact (show Tryd.prog.wantsStandIn t = false by simpa using List.all_eq_true.1 hall t hm)⟩)
    (by kernel_rfl)
#print axioms card_holds
end Go.Proofs.YthaabkmodpnbbaaDoor.codeErasures
