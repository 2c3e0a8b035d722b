/- Package tree: upward: the iterator over the levels, and what it hands to each round. -/
import Derived.Test.YthepmahjpejmdaaDoorKu01
import Derived.Test.YthepmahjpejmdaaDoorKu15
import Derived.Test.YthepmahjpejmdaaDoorKu16
set_option linter.unusedSimpArgs false
set_option linter.unusedVariables false
/- Package tree: upward: the iterator over the levels, and what it hands to each round. -/
namespace Go.Proofs.YthepmahjpejmdaaDoor
open Go.RowKit Go.Shelf
set_option linter.unusedVariables false
attribute [local go_sem] Oper.semAt_some

/-- A level that was handed over: its block, its capacity, its digests. -/
abbrev Lv := Nat × Nat × List Dg
abbrev lvV (x : Lv) : Value := .slice (some ⟨x.1, 0, none⟩) x.2.2.length x.2.1
def LvOk (f : Int) (l : List Dg) (xs : List Lv) : Prop := ∀ (j : Nat) (x : Lv), xs[j]? = some x → x.2.2 = lvl f l j
theorem LvOk.nil (f : Int) (l : List Dg) : LvOk f l [] := fun j x h => by simp at h
theorem LvOk.snoc {f : Int} {l : List Dg} {xs : List Lv} (h : LvOk f l xs) (x : Lv) (hx : x.2.2 = lvl f l xs.length) : LvOk f l (xs ++ [x]) := fun j y hy => by
  rcases Nat.lt_trichotomy j xs.length with e | e | e
  · rw [List.getElem?_append_left e] at hy; exact h j y hy
  · subst e; rw [List.getElem?_append_right (Nat.le_refl _), Nat.sub_self] at hy; simp at hy; subst hy; exact hx
  · rw [List.getElem?_append_right (by omega)] at hy
    have : ([x] : List Lv)[j - xs.length]? = none := List.getElem?_eq_none (by simp; omega)
    rw [this] at hy; cases hy
/-- What holds of a level where it is handed over. -/
def LvM (n1 : Nat) (x : Lv) (W : World) : Prop := DB x.1 W x.2.2 ∧ 0 < x.2.2.length ∧ n1 ≤ x.1
/-- What a round must keep. -/
structure LvK (L F : Nat) (W W' : World) : Prop where
  size : W.heap.size ≤ W'.heap.size
  db : ∀ B l, 0 < l.length → DB B W l → DB B W' l
  hL : W'.heap[L]? = W.heap[L]?
  hF : W'.heap[F]? = W.heap[F]?
  h0 : W'.heap[0]? = W.heap[0]?
theorem LvK.trans {L F : Nat} {A B C : World} (h : LvK L F A B) (k : LvK L F B C) : LvK L F A C :=
  ⟨Nat.le_trans h.size k.size, fun b l hl hb => k.db b l hl (h.db b l hl hb), k.hL.trans h.hL, k.hF.trans h.hF, k.h0.trans h.h0⟩
theorem On.gb {W w : World} (h : On W w) : W.grownBy w none := ⟨h.2.os, h.2.tape, h.2.output, h.2.size, fun i hi _ => h.2.block i hi⟩
theorem DB.gb {B : Nat} {X Y : World} {row : Option Nat} {l : List Dg} (h : DB B X l) (hl : 0 < l.length) (hg : X.grownBy Y row) (hr : ∀ r, row = some r → ∃ o : Obj, X.heap[r]? = some o ∧ o.isCells = false) : DB B Y l := by
  refine h.kept hg.size (hg.block B h.1 fun e => ?_)
  obtain ⟨o, ho, hc⟩ := hr B e.symm
  have c := (h.2.1 0 hl).1
  unfold World.cell? at c
  rw [ho] at c
  cases o <;> simp_all [Obj.isCells]
theorem lvM_own (n1 B : Nat) : OwnFrom B (LvM n1) := fun x X Y row ⟨h1, h2, h3⟩ hg hr => ⟨h1.gb h2 hg (fun r e => (hr r e).2), h2, h3⟩

theorem lvl_sm (f : Int) (l : List Dg) (h : ∀ t, SmD (l.getD t zD)) : ∀ j t, SmD ((lvl f l j).getD t zD) := by
  intro j
  cases j with
  | zero => exact h
  | succ j =>
    intro t
    show SmD ((upD f (lvl f l j)).getD t zD)
    by_cases ht : t < (lvl f l j).length / 2
    · rw [upD_get _ _ _ ht]; exact nodeF_sm _ _ _
    · rw [List.getD_eq_getElem?_getD, List.getElem?_eq_none (by rw [upD_len]; omega)]; exact zD_sm
set_option maxRecDepth 100000 in
set_option maxHeartbeats 2000000 in
theorem up_in (m : Nat) (f : Int) (l : List Dg) (v : Value) (K : Nat) (hK : K ≤ 18) (hlen : l.length = 2 ^ K) (L Fb : Nat) (i : Nat) (n1 : Nat) (J Jx : List Lv → World → Prop)
    (W : World) (hT : Tab W) (hR : DR W v l) (hL : Boxed W L 22 v) (hF : Boxed W Fb 3 (.int .i64 f)) (hn1 : n1 ≤ W.heap.size) (hL0 : L < W.heap.size) (hF0 : Fb < W.heap.size)
    (aJ : AbidesFrom W.heap.size J) (hY : ∀ pre x W1, J pre W1 → LvM n1 x W1 → pre.length < 19 → YieldAt Fence.wide (m - 1) Tryd.prog i #[lvV x] W1 fun e W' => (e = .returned (.bool true) ∧ J (pre ++ [x]) W' ∧ LvK L Fb W1 W') ∨ (e = .returned (.bool false) ∧ Jx (pre ++ [x]) W')) (h0 : J [] W) :
    CallsIn Fence.wide m Tryd.prog 40 #[.func (.yield i) #[] #[], .pointer (some ⟨L, 0, none⟩), .pointer (some ⟨Fb, 0, none⟩)] W fun e W' => (∃ v, e = .returned v) ∧
      ((∃ xs, (LvOk f l xs ∧ xs.length = K + 1) ∧ J xs W') ∨ (∃ pre, (LvOk f l pre ∧ pre.length ≤ K + 1) ∧ Jx pre W')) := by
  have hsm : ∀ t, SmD (l.getD t zD) := hR.sm
  have HPW : Hid (∀ t, t ≤ 18 → 2 ^ t ≤ 262144) := fun t ht => Nat.le_trans (Nat.pow_le_pow_right (by omega) ht : 2 ^ t ≤ 2 ^ 18) (by decide)
  have hlb : l.length ≤ 262144 := by rw [hlen]; exact Nat.le_trans (Nat.pow_le_pow_right (by omega) hK : 2 ^ K ≤ 2 ^ 18) (by decide)
  have hl0 : 0 < l.length := by rw [hlen]; exact Nat.pow_pos (by omega)
  obtain ⟨a, cap, rfl⟩ := hR.shape
  have HCL := Lib.hid (clone_any l _ W hT hR hl0 (by omega))
  have HLN := Lib.hid (lvl_len f l K hlen)
  have HT := Lib.hid hT; have HY := Lib.hid hY; have HAJ := Lib.hid aJ; have HAJ' := Lib.hid aJ; have H0 := Lib.hid h0
  have HL := Lib.hid hL; have HF := Lib.hid hF
  have hlc := hL.cell
  have HLB := Lib.hid hlb
  clear hT hY aJ h0 hR hL hF hlen
  refine callsIn_of_wp Tryd.func40 rfl trivial ?_ rfl
  simp only [Tryd.ntmps40, List.size_toArray, List.length_cons, List.length_nil, Nat.reduceAdd, Nat.reduceSub, Array.replicate_succ, Array.replicate_zero, List.push_toArray, List.append_toArray, List.nil_append, List.cons_append]
  gi_wp2_with (refine ⟨trivial, fun h => by simp [Fence.wide] at h, ?_⟩; gi_at_call 31; refine (callsIn_wide.2 HCL.out).mono ?_; rintro e w1 ⟨⟨B1, c1, rfl, hB1, hD1⟩, hO1⟩)
  have HO1 := Lib.hid hO1
  have HD1 := Lib.hid hD1
  clear hO1 hD1
  gi_loopw [4] (fun v4 wr => ∃ (j B c N : Nat) (pre : List Lv), j ≤ K ∧ v4 = .slice (some ⟨B, 0, none⟩) N c ∧ Hid (N = (lvl f l j).length ∧ DB B wr (lvl f l j) ∧ n1 ≤ B) ∧ Hid (LvOk f l pre ∧ pre.length = j) ∧ Hid (J pre wr) ∧
      Hid (Boxed wr Fb 3 (.int .i64 f) ∧ Tab wr ∧ W.heap.size ≤ wr.heap.size)) (fun v4 _ => match v4 with | .slice _ N _ => N | _ => 0)
  case atStart =>
    refine ⟨0, B1, c1, l.length, [], Nat.zero_le _, rfl, ⟨rfl, HD1.out, by omega⟩, ⟨LvOk.nil _ _, rfl⟩, HAJ.out _ _ _ none H0.out HO1.out.gb (fun r e => by cases e), ⟨box_on' HF.out HO1.out, HO1.out.tab, HO1.out.size⟩⟩
  case round =>
    obtain ⟨j, B, c, N, pre, hj, rfl, HD, HP, HJ, HX⟩ := hrel
    have hN : N = 2 ^ (K - j) := by rw [HD.out.1]; exact HLN.out j hj
    have hN0 : 0 < N := by rw [hN]; exact Nat.pow_pos (by omega)
    obtain ⟨fn, tmps, assign, body, hy, hRd⟩ := HY.out pre (B, c, lvl f l j) wr HJ.out ⟨HD.out.2.1, by show 0 < (lvl f l j).length; rw [← HD.out.1]; exact hN0, HD.out.2.2⟩ (by rw [HP.out.2]; omega)
    have HNE := Lib.hid HD.out.1
    have hye : (lvl f l j).length = N := HD.out.1.symm
    rw [show lvV (B, c, lvl f l j) = .slice (some ⟨B, 0, none⟩) N c from by rw [HD.out.1]] at hy
    have HP2 : Hid (LvOk f l (pre ++ [(B, c, lvl f l j)]) ∧ (pre ++ [((B, c, lvl f l j) : Lv)]).length = j + 1) := ⟨HP.out.1.snoc _ (by show lvl f l j = lvl f l pre.length; rw [HP.out.2]), by simp [HP.out.2]⟩
    have HN := Lib.hid hN
    clear hye hN
    gi_wp2
    refine ⟨fun h => by simp [Fence.wide] at h, hRd.mono ?_⟩
    rintro e W3 (⟨rfl, hJ3, hk3⟩ | ⟨rfl, hJx3⟩)
    · have HJ3 := Lib.hid hJ3
      have HD3 := Lib.hid (hk3.db B (lvl f l j) (by rw [← HD.out.1]; exact hN0) HD.out.2.1)
      have HT3 : Hid (Tab W3) := HX.out.2.1.of_cells fun o => World.cell?_of_block (a := ⟨0, o, none⟩) hk3.h0
      have HF3 : Hid (Boxed W3 Fb 3 (.int .i64 f)) := hk3.hF.trans HX.out.1
      have HS3 : Hid (W.heap.size ≤ W3.heap.size) := Nat.le_trans HX.out.2.2 hk3.size
      clear hJ3 hk3 hRd hy
      by_cases hlt : j < K
      · have h1N : (1 : Int) < (N : Int) := by
          have : 2 ^ 1 ≤ 2 ^ (K - j) := Nat.pow_le_pow_right (by omega) (by omega)
          have := HN.out; omega
        have HR3 : Hid (DR W3 (.slice (some ⟨B, 0, none⟩) N c) (lvl f l j)) := by
          have h := HD3.out.reads (fun t ht => lvl_sm f l hsm j t) (by rw [HLN.out j hj]; have := HPW.out (K - j) (by omega); omega) c
          rw [HD.out.1]; exact h
        have hNb : N ≤ 262144 := by rw [HN.out]; exact HPW.out (K - j) (by omega)
        have HNO : Hid (Calls Tryd.prog 41 #[.int .i64 f, .slice (some ⟨B, 0, none⟩) N c] W3 fun e w' => e = .returned (.slice (some ⟨W3.heap.size, 0, none⟩) (N / 2) (N / 2)) ∧ DB W3.heap.size w' (lvl f l (j + 1)) ∧ On W3 w') := by
          have h := nodes_any f (lvl f l j) _ W3 HT3.out HR3.out (by rw [← HD.out.1]; omega)
          rw [← HD.out.1] at h; exact h
        have hfc := HF3.out.cell
        clear HR3
        gi_wp2_with (refine ⟨trivial, fun h => by simp [Fence.wide] at h, ?_⟩; gi_at_call 41; refine (callsIn_wide.2 HNO.out).mono ?_; rintro e w4 ⟨rfl, hD4, hO4⟩)
        go_roundw
        case rel => exact ⟨j + 1, _, _, _, pre ++ [(B, c, lvl f l j)], by omega, rfl, ⟨by rw [HLN.out (j + 1) (by omega), HN.out, show K - j = (K - (j + 1)) + 1 by omega, Nat.pow_succ, Nat.mul_div_cancel _ (by omega)], hD4, Nat.le_trans hn1 HS3.out⟩, HP2, HAJ'.out _ _ _ none HJ3.out hO4.gb (fun r e => by cases e), ⟨box_on' HF3.out hO4, hO4.tab, Nat.le_trans HS3.out hO4.size⟩⟩
        case measure => simp; omega
      · obtain rfl : j = K := by omega
        have h1N : ¬ (1 : Int) < (N : Int) := by
          have := HN.out; rw [Nat.sub_self, Nat.pow_zero] at this; omega
        gi_wp2
        go_end0
        exact ⟨⟨_, rfl⟩, .inl ⟨_, HP2.out, HJ3.out⟩⟩
    · gi_wp2
      go_end0
      exact ⟨⟨_, rfl⟩, .inr ⟨_, ⟨HP2.out.1, by rw [HP2.out.2]; omega⟩, hJx3⟩⟩
end Go.Proofs.YthepmahjpejmdaaDoor

/- A list of lists of digests that is grown by append; a tree's memory. -/
namespace Go.Proofs.YthepmahjpejmdaaDoor
open Go.RowKit
set_option linter.unusedVariables false

theorem run_append_nil_z {P : Program} (w : World) (t u ty e : TypeId) (i : TypeInfo) (z : Value) (ht : P.underlying t = some (.slice e)) (hu : P.underlying u = some (.slice e)) (hi : P.info? e = some i) (hz : i.zero = some z)
    (a : Addr) (n c : Nat) (news : List Value) (hl : news.length = n * i.size) (hnews : ∀ j v, news[j]? = some v → w.cell? (a.add j) = some v)
    (h0 : 0 < n) (h63 : (n : Int) ≤ 9223372036854775807) (h48 : n * i.bytes ≤ 281474976710656) :
    (Builtin.append_ #[t, u] ty #[.slice none 0 0, .slice (some a) n c]).run P w =
      .ok (.slice (some ⟨w.heap.size, 0, none⟩) n (grownCap w n 0 e)) (w.drew.alloc (.cells (news.toArray ++ Builtin.zeroCells z.cells (grownCap w n 0 e - n)) e)) := by
  have hn : n ≠ 0 := by omega
  have h63' : ¬ (9223372036854775807 < (n : Int)) := by omega
  have h48' : ¬ (281474976710656 < Builtin.nextslicecap n 0 * i.bytes) := by rw [nextslicecap_zero h0]; omega
  have hf := run_firstCells_some (P := P) w.drew i.size n a n c news hl (by simpa using hnews)
  simp [Builtin.append_, run_underlying ht, run_underlying hu, sizeOf, typeInfo, zeroValue, hi, hz, Builtin.lenOf, hn, h63', h48', Question.forced, run_firstCells_none, hf, newRow, grownCap]
theorem run_append_none_z {P : Program} (w : World) (t u ty e : TypeId) (i : TypeInfo) (ht : P.underlying t = some (.slice e)) (hu : P.underlying u = some (.slice e)) (hi : P.info? e = some i) (oa : Option Addr) (c : Nat) :
    (Builtin.append_ #[t, u] ty #[.slice none 0 0, .slice oa 0 c]).run P w = .ok (.slice none 0 0) w := by
  cases oa <;> simp [Builtin.append_, run_underlying ht, run_underlying hu, sizeOf, typeInfo, hi, Builtin.lenOf, Builtin.firstCells, loadCells, loadCellsFrom]
theorem info_hdr : (Tryd.prog.info? 22).map (fun i => (i.zero, i.size, i.bytes)) = some (some (.slice none 0 0), 1, 24) := by kernel_rfl
theorem append_hdr {B : Nat} {w : World} {v : Value} {m : Nat} {Vs : List Value} (howna : w.ownsRow B 22 1 v m Vs) (hl : Vs.length = m) (hB : B ≤ w.heap.size) (hm : m ≤ 1000) (a : Option Addr) (n c : Nat) (C : Nat) (hC : C = w.heap.size) :
    ∃ v' w', (∀ ty, (Builtin.append_ #[24, 24] ty #[v, .slice (some ⟨C, 0, none⟩) 1 1]).run Tryd.prog (w.alloc (.cells #[.slice a n c] 22)) = .ok v' w') ∧ w'.ownsRow B 22 1 v' (m + 1) (Vs ++ [.slice a n c]) ∧ w.grownBy w' v.ownBlock := by
  subst hC
  obtain ⟨i0, hi, hz0, hz1, hz2⟩ := info_parts info_hdr
  obtain ⟨wa, hwa⟩ : ∃ wa, wa = w.alloc (.cells #[.slice a n c] 22) := ⟨_, rfl⟩
  have hga : w.grownBy wa none := by rw [hwa]; exact ⟨rfl, rfl, rfl, by simp, fun k hk _ => Below.heap_alloc w _ k hk⟩
  replace howna : wa.ownsRow B 22 1 v m Vs := by rw [hwa]; exact howna.alloc _
  have hsza : wa.heap.size = w.heap.size + 1 := by rw [hwa]; simp
  have hcell : ∀ j u, [Value.slice a n c][j]? = some u → wa.cell? ((⟨w.heap.size, 0, none⟩ : Addr).add j) = some u := fun j u hj => by
    rw [hwa]
    cases j with
    | zero => simp at hj; subst hj; exact World.cell?_alloc_at _ _ w.heap.size 0 rfl
    | succ j => simp at hj
  rw [← hwa]
  have key : ∃ v' w', (∀ ty, (Builtin.append_ #[24, 24] ty #[v, .slice (some ⟨w.heap.size, 0, none⟩) 1 1]).run Tryd.prog wa = .ok v' w') ∧ w'.ownsRow B 22 1 v' (m + 1) (Vs ++ [.slice a n c]) ∧ wa.grownBy w' v.ownBlock := by
    have hgr : ∀ (o : Obj) (row : Option Nat), wa.grownBy (wa.drew.alloc o) row := fun o row => ⟨rfl, rfl, rfl, by simp, fun k hk _ => Below.heap_alloc wa.drew _ k hk⟩
    have hmk : ∀ (old : Nat), (wa.drew.alloc (.cells (Vs.toArray ++ [Value.slice a n c].toArray ++ Builtin.zeroCells (Value.slice none 0 0).cells (grownCap wa (m + 1) old 22 - (m + 1))) 22)).ownsRow B 22 1 (.slice (some ⟨wa.heap.size, 0, none⟩) (m + 1) (grownCap wa (m + 1) old 22)) (m + 1) (Vs ++ [.slice a n c]) := fun old => by
      have hge := grownCap_ge wa (m + 1) old 22
      have hcm := grownCap_le_maxLen wa (m + 1) old 22 (by unfold maxLen; omega)
      generalize grownCap wa (m + 1) old 22 = cc at *
      refine ⟨by simp [hl], .inr ⟨wa.heap.size, cc, _, rfl, by omega, World.alloc_heap_new _ _, hge, hcm, ?_, ?_⟩⟩
      · simp only [Array.size_append, List.size_toArray, size_zeroCells]
        simp [Value.cells]; omega
      · have e2 : (m + 1) * 1 = (Vs ++ [Value.slice a n c]).length := by simp [hl]
        rw [e2]
        simp only [Array.toList_append, List.append_assoc]
        rw [← List.append_assoc]
        exact List.take_left
    rcases howna.2 with ⟨rfl, rfl⟩ | ⟨g, cap, cur, rfl, hb, hg, h1, h2, h3, h4⟩
    · obtain rfl : Vs = [] := List.length_eq_zero_iff.1 hl
      have hrun := fun ty => run_append_nil_z (P := Tryd.prog) wa 24 24 ty 22 i0 (.slice none 0 0) Tryd.underlying24 Tryd.underlying24 hi hz0 ⟨w.heap.size, 0, none⟩ 1 1 [.slice a n c] (by rw [hz1]; rfl) hcell (by omega) (by omega) (by rw [hz2]; omega)
      have := hmk 0
      have e0 : ([] : List Value).toArray ++ [Value.slice a n c].toArray = [Value.slice a n c].toArray := by simp
      rw [e0] at this
      exact ⟨_, _, hrun, this, hgr _ _⟩
    · by_cases hroom : m < cap
      · have hrun := fun ty => run_append_room (P := Tryd.prog) wa 24 ty 22 i0 Tryd.underlying24 hi g m cap cur hg ⟨w.heap.size, 0, none⟩ 1 1 [.slice a n c] (by rw [hz1]; rfl) hcell (by simp [Value.oneCell']) (by omega) (by rw [hz1]; simp; omega)
        refine ⟨_, _, hrun, ⟨by simp [hl], .inr ⟨g, cap, _, rfl, hb, setRow_heap _ g cur _ _ _ hg, by omega, h2, ?_, ?_⟩⟩, ?_⟩
        · rw [hz1]; simp; omega
        · rw [hz1, Nat.mul_one, Nat.mul_one]
          rw [Nat.mul_one] at h4
          have hl2 : (cur.toList.take m).length = m := by simp; omega
          rw [List.take_append_of_le_length (by simp; omega), List.take_of_length_le (by simp; omega), h4]
        · refine ⟨rfl, rfl, rfl, by simp, fun k hk hne => ?_⟩
          exact setRow_other _ g k _ (fun e => hne (by rw [e]; rfl))
      · have hrun := fun ty => run_append_grow (P := Tryd.prog) wa 24 ty 22 i0 (.slice none 0 0) Tryd.underlying24 hi hz0 ⟨g, 0, none⟩ m cap Vs (by rw [hl, hz1, Nat.mul_one])
          (fun j u hj => World.ownsRow.cells howna rfl j u hj)
          ⟨w.heap.size, 0, none⟩ 1 1 [.slice a n c] (by rw [hz1]; rfl) hcell (by omega) (by omega)
          (growslice_fits (by omega) (by rw [hz2]; omega))
        exact ⟨_, _, hrun, hmk cap, hgr _ _⟩
  obtain ⟨v', w', hrun, ho, hg⟩ := key
  exact ⟨v', w', hrun, ho, ⟨hg.os.trans hga.os, hg.tape.trans hga.tape, hg.output.trans hga.output, Nat.le_trans hga.size hg.size, fun k hk hne => (hg.block k (by omega) hne).trans (hga.block k hk (by simp))⟩⟩

/-- The slice v shows m levels, the j-th of which reads as F j. -/
def TR (w : World) (v : Value) (m : Nat) (F : Nat → List Dg) : Prop :=
  ∃ a cap, v = .slice a m cap ∧ m ≤ 4611686018427387903 ∧ ∀ j, j < m → ∃ b o u, a = some ⟨b, o, none⟩ ∧ w.cell? ⟨b, o + j, none⟩ = some u ∧ DR w u (F j)
theorem TR.on {w w' : World} {v : Value} {m : Nat} {F : Nat → List Dg} (h : TR w v m F) (k : On w w') : TR w' v m F := by
  obtain ⟨a, cap, h1, h0, h2⟩ := h
  refine ⟨a, cap, h1, h0, fun j hj => ?_⟩
  obtain ⟨b, o, u, h3, h4, h5⟩ := h2 j hj
  exact ⟨b, o, u, h3, by rw [k.cell (p := ⟨b, o + j, none⟩) (cell_size h4)]; exact h4, h5.on k⟩
theorem TR.shape {w : World} {v : Value} {m : Nat} {F : Nat → List Dg} (h : TR w v m F) : ∃ a cap, v = .slice a m cap := by
  obtain ⟨a, cap, h1, _⟩ := h
  exact ⟨a, cap, h1⟩
theorem TR.eq {w : World} {v : Value} {m : Nat} {F G : Nat → List Dg} (h : TR w v m F) (e : ∀ j, j < m → G j = F j) : TR w v m G := by
  obtain ⟨a, cap, h1, h0, h2⟩ := h
  refine ⟨a, cap, h1, h0, fun j hj => ?_⟩
  rw [e j hj]; exact h2 j hj
/-- The same, in memory from n0 on, which may be written. -/
def TM (n0 : Nat) (w : World) (v : Value) (m : Nat) (F : Nat → List Dg) : Prop :=
  ∃ g cap, v = .slice (some ⟨g, 0, none⟩) m cap ∧ n0 ≤ g ∧ g < w.heap.size ∧ (∀ j, w.frozen? ⟨g, j, none⟩ = false) ∧ ∀ j, j < m → ∃ B c, w.cell? ⟨g, j, none⟩ = some (.slice (some ⟨B, 0, none⟩) (F j).length c) ∧ n0 ≤ B ∧ B ≠ g ∧ DB B w (F j)
theorem TM.on {n0 : Nat} {w w' : World} {v : Value} {m : Nat} {F : Nat → List Dg} (h : TM n0 w v m F) (k : On w w') : TM n0 w' v m F := by
  obtain ⟨g, cap, h1, h2, h3, h4, h5⟩ := h
  refine ⟨g, cap, h1, h2, Nat.lt_of_lt_of_le h3 k.size, fun j => (k.frozen (p := ⟨g, j, none⟩) h3).trans (h4 j), fun j hj => ?_⟩
  obtain ⟨B, c, e1, e2, e3, e4⟩ := h5 j hj
  exact ⟨B, c, (k.cell (p := ⟨g, j, none⟩) h3).trans e1, e2, e3, e4.on k⟩
theorem TM.tr {n0 : Nat} {w : World} {v : Value} {m : Nat} {F : Nat → List Dg} (h : TM n0 w v m F) (hm : m ≤ 1000000) (hU : ∀ j, j < m → (∀ t, SmD ((F j).getD t zD)) ∧ (F j).length ≤ 1000000) : TR w v m F := by
  obtain ⟨g, cap, h1, h2, h3, h4, h5⟩ := h
  refine ⟨_, cap, h1, by omega, fun j hj => ?_⟩
  obtain ⟨B, c, e1, e2, e3, e4⟩ := h5 j hj
  exact ⟨g, 0, _, rfl, by rw [Nat.zero_add]; exact e1, e4.reads (fun t _ => (hU j hj).1 t) (by have := (hU j hj).2; omega) c⟩
end Go.Proofs.YthepmahjpejmdaaDoor
