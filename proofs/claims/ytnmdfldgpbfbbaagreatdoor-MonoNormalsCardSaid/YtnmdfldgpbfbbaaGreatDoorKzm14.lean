/- slices.DeleteFunc of monomials: those with the coefficient 0. -/
import Derived.Test.YtnmdfldgpbfbbaaGreatDoorKzm13
import Derived.Laws.CopyRow
set_option linter.unusedSimpArgs false
set_option linter.unusedVariables false
/- slices.DeleteFunc of monomials: those with the coefficient 0. -/
namespace Go.Proofs.YtnmdfldgpbfbbaaGreatDoor
open Go.Shelf Go.RowKit Go.Lib Go.Sort
set_option linter.unusedVariables false

abbrev moV (c : Nat) (a : Option Addr) (n k : Nat) : Value := .agg #[.int .u64 ((c : Nat) : Int), .slice a n k]
theorem del_any (c : Nat) (a : Option Addr) (n k : Nat) (w : World) : Calls Tryz.prog 45 #[moV c a n k] w fun e w' => e = .returned (.bool (decide (c = 0))) ∧ w' = w.alloc (.cells #[.int .u64 ((c : Nat) : Int), .slice a n k] 34) := by
  cases c with
  | zero =>
    go_enter Tryz.func45, Tryz.ntmps45
    go_wp2
    go_ret
    exact ⟨rfl, rfl⟩
  | succ c =>
    have h : (((c + 1 : Nat) : Int) == 0) = false := by simp; omega
    have hd : decide (c + 1 = 0) = false := by simp
    rw [hd]
    generalize c + 1 = d at *
    go_enter Tryz.func45, Tryz.ntmps45
    go_wp2
    go_ret
    exact ⟨rfl, rfl⟩
/-- The headers are slices. -/
def ZOk (Z : List (Nat × Value)) : Prop := ∀ i, ∃ a n c, (Z.getD i zZ).2 = .slice a n c
theorem Fits.zok {w : World} {Z : List (Nat × Value)} {L : List Mo} (h : Fits w Z L) : ZOk Z := fun i => by
  rcases Nat.lt_or_ge i L.length with hi | hi
  · obtain ⟨a, c, e⟩ := (h.2 i hi).2.shape; exact ⟨_, _, _, e⟩
  · rw [List.getD_eq_getElem?_getD, List.getElem?_eq_none (by rw [h.1]; exact hi)]; exact ⟨_, _, _, rfl⟩
/-- The row of monomials that v shows. -/
def ZR (w : World) (a : Option Addr) (n : Nat) (Z : List (Nat × Value)) : Prop := n = Z.length ∧ ∀ i, i < n → ∃ g, a = some ⟨g, 0, none⟩ ∧ w.cell? ⟨g, i * 2, none⟩ = some (.int .u64 (((Z.getD i zZ).1 : Nat) : Int)) ∧ w.cell? ⟨g, i * 2 + 1, none⟩ = some (Z.getD i zZ).2
theorem ZR.of_own {B n cap : Nat} {w : World} {a : Option Addr} {Z : List (Nat × Value)} (h : w.ownsRow B 34 2 (.slice a n cap) n (mcells Z)) : ZR w a n Z := by
  have hl := h.1
  rw [mcells_len] at hl
  refine ⟨by omega, fun i hi => ?_⟩
  rcases h.2 with ⟨he, h0⟩ | ⟨g, cap', cur, he, hb, hg, _⟩
  · omega
  · simp only [Value.slice.injEq] at he
    obtain ⟨rfl, -, rfl⟩ := he
    have hz := mcells_get Z i (by omega)
    have c1 := h.cells (g := g) rfl _ _ hz.1
    have c2 := h.cells (g := g) rfl _ _ hz.2
    rw [add_plain, Nat.zero_add] at c1 c2
    exact ⟨g, rfl, c1, c2⟩
/-- Where the first monomial with the coefficient 0 is. -/
def firstZ (Z : List (Nat × Value)) : Option Nat := Z.findIdx? fun z => decide (z.1 = 0)
def fzI (Z : List (Nat × Value)) : Int := match firstZ Z with | some i => (i : Int) | none => -1
theorem firstZ_some {Z : List (Nat × Value)} {i : Nat} (hi : i < Z.length) (h : (Z.getD i zZ).1 = 0) (hb : ∀ j, j < i → (Z.getD j zZ).1 ≠ 0) : firstZ Z = some i := by
  unfold firstZ
  rw [List.findIdx?_eq_some_iff_getElem]
  rw [List.getD_eq_getElem?_getD, List.getElem?_eq_getElem hi] at h
  refine ⟨hi, by simpa using h, fun j hj => ?_⟩
  have := hb j hj
  rw [List.getD_eq_getElem?_getD, List.getElem?_eq_getElem (by omega)] at this
  simpa using this
theorem firstZ_none {Z : List (Nat × Value)} (hb : ∀ j, j < Z.length → (Z.getD j zZ).1 ≠ 0) : firstZ Z = none := by
  unfold firstZ
  rw [List.findIdx?_eq_none_iff]
  intro x hx
  obtain ⟨j, hj, rfl⟩ := List.getElem_of_mem hx
  have := hb j hj
  rw [List.getD_eq_getElem?_getD, List.getElem?_eq_getElem hj] at this
  simpa using this

set_option maxHeartbeats 1000000 in
theorem indexf_any (a : Option Addr) (n cap : Nat) (Z : List (Nat × Value)) (w : World) (hT : Tab w) (hR : ZR w a n Z) (hZ : ZOk Z) (hn : n ≤ 4611686018427387903) :
    Calls Tryz.prog 64 #[.slice a n cap, .func (.func 45) #[] #[]] w fun e w' => e = .returned (.int .i64 (fzI Z)) ∧ On w w' := by
  have HZ := Lib.hid hZ
  have HR := Lib.hid hR.2
  have HN := Lib.hid hR.1
  have H0 := Lib.hid (On.refl hT)
  clear hR hZ hT
  go_enter Tryz.func64, Tryz.ntmps64
  go_wp2_with fail
  go_loopw [8] (fun vi wr => ∃ k : Nat, k ≤ n ∧ vi = .int .i64 (k : Int) ∧ Hid (∀ j, j < k → (Z.getD j zZ).1 ≠ 0) ∧ Hid (On w wr)) (fun vi _ => n - (intOf vi).toNat)
  case atStart => exact ⟨0, Nat.zero_le _, rfl, fun j hj => by omega, H0⟩
  case round =>
    rename World => wr
    obtain ⟨k, hk, rfl, HK, HO⟩ := hrel
    by_cases hlt : k < n
    · obtain ⟨g, rfl, c0, c1⟩ := HR.out k hlt
      obtain ⟨ah, nh, ch, hh⟩ := HZ.out k
      rw [hh] at c1
      have c0' := (HO.out.cell (p := ⟨g, k * 2, none⟩) (cell_size c0)).trans c0
      have c1' := (HO.out.cell (p := ⟨g, k * 2 + 1, none⟩) (cell_size c1)).trans c1
      have hlt' : (k : Int) < (n : Int) := by omega
      have HS : Hid ((Z.getD k zZ).1 ≠ 0 → ∀ j, j < k + 1 → (Z.getD j zZ).1 ≠ 0) := fun h j hj => by
        by_cases e : j = k
        · rw [e]; exact h
        · exact HK.out j (by omega)
      have HY : Hid ((Z.getD k zZ).1 = 0 → fzI Z = (k : Int)) := fun h => by unfold fzI; rw [firstZ_some (by rw [← HN.out]; exact hlt) h HK.out]
      have HX : Hid (∀ o, On w (wr.alloc o)) := fun o => HO.out.alloc o
      clear c0 c1 HK hh
      generalize (Z.getD k zZ).1 = cc at *
      by_cases h0 : cc = 0
      · have HE := Lib.hid (HY.out h0)
        have HD : Hid (∀ w, Calls Tryz.prog 45 #[moV cc ah nh ch] w fun e w' => e = .returned (.bool true) ∧ w' = w.alloc (.cells #[.int .u64 ((cc : Nat) : Int), .slice ah nh ch] 34)) := fun w => by
          have h := del_any cc ah nh ch w; rw [decide_eq_true h0] at h; exact h
        clear HS HY h0
        go_wp2_with (go_at_call 45; refine (HD.out _).mono ?_; rintro e w' ⟨rfl, rfl⟩)
        go_ret
        exact ⟨by rw [HE.out]; rfl, HX.out _⟩
      · have HE := Lib.hid (HS.out h0)
        have HD : Hid (∀ w, Calls Tryz.prog 45 #[moV cc ah nh ch] w fun e w' => e = .returned (.bool false) ∧ w' = w.alloc (.cells #[.int .u64 ((cc : Nat) : Int), .slice ah nh ch] 34)) := fun w => by
          have h := del_any cc ah nh ch w; rw [decide_eq_false h0] at h; exact h
        clear HS HY h0
        go_wp2_with (go_at_call 45; refine (HD.out _).mono ?_; rintro e w' ⟨rfl, rfl⟩)
        go_roundw
        case rel => exact ⟨k + 1, by omega, by simp, HE, Lib.hid (HX.out _)⟩
        case measure => simp [intOf]; omega
    · obtain rfl : k = n := by omega
      have HE : Hid (fzI Z = -1) := by unfold Hid fzI; rw [firstZ_none (fun j hj => HK.out j (by rw [HN.out]; exact hj))]
      clear HK
      go_wp2
      go_ret
      exact ⟨by rw [HE.out]; rfl, HO.out⟩

/-! ### clear -/
theorem wp_clearJ {P : Program} {w w' : World} {ops : Array Oper} {rest : List Oper} {o : Oper} {a : Act} {Q : Exit → Act → World → Prop} (hgd : o.guard = none) (s : Operand) (t : TypeId)
    (ho : o.op = .call { callee := .builtin .clear, args := #[s], argTypes := #[t] }) (vs v' : Value) (hs : a.eval s = vs) (hrun : ∀ ty, (Builtin.clear_ #[t] ty #[vs]).run P w = .ok v' w')
    (h : wpList P ops Q rest (a.put o.dst v') w') : wpList P ops Q (o :: rest) a w :=
  wpList_plain hgd fun K hK => by
    unfold Oper.wp execOp
    simp only [ho, resolve, invoke, builtin, Sem.run_bind, Sem.run_pure, Result.andThen_ok, List.map_toArray, List.map_cons, List.map_nil, hs, hrun]
    exact hK _ _ h
theorem zero_mo (w : World) : (zeroValue 34).run Tryz.prog w = .ok (.agg #[.int .u64 0, .slice none 0 0]) w := by kernel_rfl
theorem zc_one (n : Nat) : ∀ v ∈ (Builtin.zeroCells (Value.agg #[.int .u64 0, .slice none 0 0]).cells n).toList, v.oneCell' = true := by
  intro v hv
  unfold Builtin.zeroCells at hv
  rw [Array.mem_toList_iff, Array.mem_map] at hv
  obtain ⟨i, -, rfl⟩ := hv
  have h : i % 2 = 0 ∨ i % 2 = 1 := by omega
  rcases h with h | h <;> simp [Value.cells, h, Value.oneCell']
theorem clear_tail {B g n cap i : Nat} {w : World} {Z : List (Nat × Value)} (hown : w.ownsRow B 34 2 (.slice (some ⟨g, 0, none⟩) n cap) n (mcells Z)) (hi : i < n) (c2 : Nat) :
    ∃ w', (∀ ty, (Builtin.clear_ #[22] ty #[.slice (some ⟨g, i * 2, none⟩) (n - i) c2]).run Tryz.prog w = .ok (.tuple #[]) w') ∧ w'.ownsRow B 34 2 (.slice (some ⟨g, 0, none⟩) i cap) i (mcells (Z.take i)) ∧ w.grownBy w' (some g) := by
  obtain ⟨h0, h1 | ⟨g', cap', cur, he, hb, hg, h2, h3, h4, h5⟩⟩ := hown
  · omega
  · simp only [Value.slice.injEq, Option.some.injEq, Addr.mk.injEq, and_true] at he
    obtain ⟨rfl, -, rfl⟩ := he
    have hzs : ((Builtin.zeroCells (Value.agg #[.int .u64 0, .slice none 0 0]).cells (n - i)).toList).length = (n - i) * 2 := by simp [size_zeroCells, Value.cells]
    have hst := run_storeCells_at (P := Tryz.prog) g (i * 2) 34 _ 0 cur w hg (by rw [hzs]; omega) (zc_one (n - i))
    obtain ⟨m, hm⟩ : ∃ m, n - i = m + 1 := ⟨n - i - 1, by omega⟩
    rw [hm] at hst ⊢
    have hml : mcells (Z.take i) = (mcells Z).take (i * 2) := by
      have : ∀ (Z : List (Nat × Value)) (i : Nat), mcells (Z.take i) = (mcells Z).take (i * 2) := by
        intro Z
        induction Z with
        | nil => intro i; simp [mcells]
        | cons z r ih =>
          intro i
          cases i with
          | zero => rfl
          | succ i => rw [List.take_succ_cons, show (i + 1) * 2 = i * 2 + 1 + 1 by omega]; simp only [mcells, List.take_succ_cons, ih]
      exact this Z i
    rw [mcells_len] at h0
    rw [hm] at hzs
    have hrun : ∀ ty, (Builtin.clear_ #[22] ty #[.slice (some ⟨g, i * 2, none⟩) (m + 1) c2]).run Tryz.prog w = .ok (.tuple #[]) _ := fun ty => by
      simp only [Builtin.clear_, Sem.run_bind, run_underlying Tryz.underlying22, zero_mo, Result.andThen_ok, List.getElem?_toArray, List.getElem?_cons_zero]
      rw [hst]
      rfl
    refine ⟨_, hrun, ⟨by rw [mcells_len, List.length_take]; omega, .inr ⟨g, cap, _, rfl, hb, setRow_heap w g cur _ _ _ hg, by omega, h3, ?_, ?_⟩⟩, ⟨rfl, rfl, rfl, by simp, fun k _ hk => setRow_other w g k _ (fun e => hk (by rw [e]))⟩⟩
    · simp only [List.size_toArray, List.length_append, List.length_take, List.length_drop, hzs, Array.length_toList]
      omega
    · rw [hml, ← h5, List.take_take, show min (i * 2) (n * 2) = i * 2 by omega]
      show ((cur.toList.take (i * 2 + 0) ++ _ ++ _).toArray.toList).take (i * 2) = _
      rw [List.append_assoc, Nat.add_zero, List.take_append_of_le_length (by simp; omega), List.take_take, Nat.min_self]
end Go.Proofs.YtnmdfldgpbfbbaaGreatDoor

/- slices.DeleteFunc of monomials, the loop. -/
namespace Go.Proofs.YtnmdfldgpbfbbaaGreatDoor
open Go.Shelf Go.RowKit Go.Lib Go.Sort
set_option linter.unusedVariables false

abbrev keepZ (Z : List (Nat × Value)) : List (Nat × Value) := Z.filter fun z => !decide (z.1 = 0)
theorem mcells_set2 (l : List (Nat × Value)) : ∀ (i c : Nat) (u : Value), i < l.length → mcells (l.set i (c, u)) = ((mcells l).set (i * 2) (.int .u64 ((c : Nat) : Int))).set (i * 2 + 1) u := by
  induction l with
  | nil => intro i c u hi; simp at hi
  | cons d l ih =>
    intro i c u hi
    cases i with
    | zero => rfl
    | succ i =>
      have h := ih i c u (by simpa using hi)
      rw [show (i + 1) * 2 = i * 2 + 1 + 1 by omega]
      simp only [List.set_cons_succ, mcells]
      rw [h]
theorem keepZ_snoc (Z : List (Nat × Value)) (j : Nat) (h : j < Z.length) : keepZ (Z.take (j + 1)) = keepZ (Z.take j) ++ if (Z.getD j zZ).1 = 0 then [] else [Z.getD j zZ] := by
  have e : Z.take (j + 1) = Z.take j ++ [Z.getD j zZ] := by
    rw [List.take_add_one, List.getElem?_eq_getElem h, List.getD_eq_getElem?_getD, List.getElem?_eq_getElem h]; rfl
  rw [e]
  unfold keepZ
  rw [List.filter_append, List.filter_cons]
  by_cases h0 : (Z.getD j zZ).1 = 0 <;> simp [h0]
theorem keepZ_all (Z : List (Nat × Value)) (h : ∀ j, j < Z.length → (Z.getD j zZ).1 ≠ 0) : keepZ Z = Z := by
  unfold keepZ
  rw [List.filter_eq_self]
  intro x hx
  obtain ⟨j, hj, rfl⟩ := List.getElem_of_mem hx
  have := h j hj
  rw [List.getD_eq_getElem?_getD, List.getElem?_eq_getElem hj] at this
  simpa using this
theorem firstZ_spec {Z : List (Nat × Value)} {i : Nat} (h : firstZ Z = some i) : i < Z.length ∧ (Z.getD i zZ).1 = 0 ∧ ∀ j, j < i → (Z.getD j zZ).1 ≠ 0 := by
  unfold firstZ at h
  rw [List.findIdx?_eq_some_iff_getElem] at h
  obtain ⟨hi, h1, h2⟩ := h
  refine ⟨hi, by rw [List.getD_eq_getElem?_getD, List.getElem?_eq_getElem hi]; simpa using h1, fun j hj => ?_⟩
  have := h2 j hj
  rw [List.getD_eq_getElem?_getD, List.getElem?_eq_getElem (by omega)]
  simpa using this
theorem firstZ_no {Z : List (Nat × Value)} (h : firstZ Z = none) : ∀ j, j < Z.length → (Z.getD j zZ).1 ≠ 0 := by
  unfold firstZ at h
  rw [List.findIdx?_eq_none_iff] at h
  intro j hj
  rw [List.getD_eq_getElem?_getD, List.getElem?_eq_getElem hj]
  simpa using h _ (List.getElem_mem hj)
theorem own_shape {B n cap g : Nat} {w : World} {e : TypeId} {xs : List Value} (h : w.ownsRow B e 2 (.slice (some ⟨g, 0, none⟩) n cap) n xs) : (∃ cur, w.heap[g]? = some (.cells cur e (0, 0))) ∧ n ≤ cap ∧ cap ≤ 9223372036854775807 := by
  rcases h.2 with ⟨he, _⟩ | ⟨g', cap', cur, he, hb, hg, h2, h3, _⟩
  · cases he
  · simp only [Value.slice.injEq, Option.some.injEq, Addr.mk.injEq, and_true] at he
    obtain ⟨rfl, -, rfl⟩ := he
    exact ⟨⟨cur, hg⟩, h2, by unfold maxLen at h3; omega⟩

set_option maxRecDepth 100000 in
set_option maxHeartbeats 2000000 in
theorem delf_any {B : Nat} (a : Option Addr) (n cap : Nat) (Z : List (Nat × Value)) (w : World) (hT : Tab w) (hown : w.ownsRow B 34 2 (.slice a n cap) n (mcells Z)) (hZ : ZOk Z) (hn : n ≤ 1000000) :
    Calls Tryz.prog 44 #[.slice a n cap, .func (.func 45) #[] #[]] w fun e w' => e = .returned (.slice a (keepZ Z).length cap) ∧ w'.ownsRow B 34 2 (.slice a (keepZ Z).length cap) (keepZ Z).length (mcells (keepZ Z)) ∧ w.grownBy w' (Value.slice a n cap).ownBlock := by
  have hR := ZR.of_own hown
  have HIF := Lib.hid (indexf_any a n cap Z w hT hR hZ (by omega))
  have HN := Lib.hid hR.1
  have HOWN := Lib.hid hown
  have HZ := Lib.hid hZ
  cases hf : firstZ Z with
  | none =>
    have hk := keepZ_all Z (firstZ_no hf)
    have hI : fzI Z = -1 := by unfold fzI; rw [hf]
    rw [hI] at HIF
    rw [hk, ← HN.out]
    clear hown hR hZ hf hk hI
    go_enter Tryz.func44, Tryz.ntmps44
    go_wp2_with (go_at_call 64; refine HIF.out.mono ?_; rintro e w1 ⟨rfl, hO1⟩)
    go_ret
    exact ⟨rfl, HOWN.out.kept hO1.gbn (by cases (Value.slice a n cap).ownBlock <;> simp), ⟨hO1.2.os, hO1.2.tape, hO1.2.output, hO1.2.size, fun k hk _ => hO1.2.block k hk⟩⟩
  | some i0 =>
    obtain ⟨hi0, hz0, hb0⟩ := firstZ_spec hf
    have hI : fzI Z = (i0 : Int) := by unfold fzI; rw [hf]
    rw [hI] at HIF
    obtain ⟨g, rfl, -, -⟩ := hR.2 i0 (by rw [HN.out]; exact hi0)
    have hi0n : i0 < n := by rw [HN.out]; exact hi0
    have hcap := (own_shape hown).2
    have hn1 : (((i0 : Nat) : Int) == -1) = false := by simp
    have HST : Hid (Z.take i0 = keepZ (Z.take (i0 + 1))) := by
      unfold Hid
      rw [keepZ_snoc Z i0 hi0, if_pos hz0, List.append_nil, keepZ_all]
      intro j hj
      have hj' : j < i0 := by rw [List.length_take] at hj; omega
      rw [List.getD_eq_getElem?_getD, List.getElem?_take, if_pos hj', ← List.getD_eq_getElem?_getD]
      exact hb0 j hj'
    have HTL : Hid (∀ t, Z.getD t zZ = Z.getD t zZ) := fun t => rfl
    clear hown hR hZ hf hI hb0 hz0 hi0
    go_enter Tryz.func44, Tryz.ntmps44
    go_wp2_with (go_at_call 64; refine HIF.out.mono ?_; rintro e w1 ⟨rfl, hO1⟩)
    have HG1 : Hid (w.grownBy w1 (some g)) := ⟨hO1.2.os, hO1.2.tape, hO1.2.output, hO1.2.size, fun k hk _ => hO1.2.block k hk⟩
    have HOW1 : Hid (w1.ownsRow B 34 2 (.slice (some ⟨g, 0, none⟩) n cap) n (mcells Z)) := HOWN.out.kept hO1.gbn (by simp [Value.ownBlock])
    clear hO1 HIF HOWN
    go_loopw [5, 6] (fun vi vj wr => ∃ (i j : Nat) (Z' : List (Nat × Value)), i < j ∧ j ≤ n ∧ vi = .int .i64 (i : Int) ∧ vj = .int .i64 (j : Int) ∧ Hid (wr.ownsRow B 34 2 (.slice (some ⟨g, 0, none⟩) n cap) n (mcells Z')) ∧ Hid (Z'.take i = keepZ (Z.take j)) ∧ Hid (∀ t, j ≤ t → Z'.getD t zZ = Z.getD t zZ) ∧ Hid (w.grownBy wr (some g))) (fun _ vj _ => n - (intOf vj).toNat)
    case atStart => exact ⟨i0, i0 + 1, Z, by omega, by omega, rfl, by simp, HOW1, HST, fun t _ => rfl, HG1⟩
    case round =>
      rename World => wr
      obtain ⟨i, j, Z', hij, hj, rfl, rfl, HOW, HK, HT, HG⟩ := hrel
      by_cases hlt : j < n
      · have hR2 := ZR.of_own HOW.out
        obtain ⟨g', hge, c0, c1⟩ := hR2.2 j hlt
        simp only [Option.some.injEq, Addr.mk.injEq, and_true] at hge
        subst hge
        rw [HT.out j (Nat.le_refl _)] at c0 c1
        obtain ⟨ah, nh, ch, hh⟩ := HZ.out j
        rw [hh] at c1
        have hlt' : (j : Int) < (n : Int) := by omega
        have hin : (i : Int) < (n : Int) := by omega
        have hKS := keepZ_snoc Z j (by rw [← HN.out]; exact hlt)
        have hzj : Z.getD j zZ = ((Z.getD j zZ).1, Value.slice ah nh ch) := Prod.ext rfl hh
        have hzl : Z'.length = n := hR2.1.symm
        by_cases h0 : (Z.getD j zZ).1 = 0
        · have HK2 : Hid (Z'.take i = keepZ (Z.take (j + 1))) := by unfold Hid; rw [hKS, if_pos h0, List.append_nil]; exact HK.out
          have HT2 : Hid (∀ t, j + 1 ≤ t → Z'.getD t zZ = Z.getD t zZ) := fun t ht => HT.out t (by omega)
          generalize (Z.getD j zZ).1 = cc at *
          have HD : Hid (∀ w, Calls Tryz.prog 45 #[moV cc ah nh ch] w fun e w' => e = .returned (.bool true) ∧ w' = w.alloc (.cells #[.int .u64 ((cc : Nat) : Int), .slice ah nh ch] 34)) := fun w => by
            have h := del_any cc ah nh ch w; rw [decide_eq_true h0] at h; exact h
          have HOWA : Hid (∀ o o', ((wr.alloc o).alloc o').ownsRow B 34 2 (.slice (some ⟨g, 0, none⟩) n cap) n (mcells Z')) := fun o o' => (HOW.out.alloc o).alloc o'
          have HGA : Hid (∀ o o', w.grownBy ((wr.alloc o).alloc o') (some g)) := fun o o' => grown_tr (grown_tr HG.out (World.grownBy_alloc _ _ _)) (World.grownBy_alloc _ _ _)
          clear hR2 hh hKS hzj h0 HK HT HOW HG hzl
          go_wp2_with (go_at_call 45; refine (HD.out _).mono ?_; rintro e w' ⟨rfl, rfl⟩)
          go_roundw
          case rel => exact ⟨i, j + 1, Z', by omega, by omega, rfl, by simp, Lib.hid (HOWA.out _ _), HK2, HT2, Lib.hid (HGA.out _ _)⟩
          case measure => simp [intOf]; omega
        · have HK2 : Hid ((Z'.set i (Z.getD j zZ)).take (i + 1) = keepZ (Z.take (j + 1))) := by
            unfold Hid
            rw [hKS, if_neg h0, ← HK.out, List.take_add_one, List.getElem?_set_self (by omega)]
            congr 1
            rw [List.take_set_of_le (Nat.le_refl _)]
          have HT2 : Hid (∀ t, j + 1 ≤ t → (Z'.set i (Z.getD j zZ)).getD t zZ = Z.getD t zZ) := fun t ht => by
            rw [getD_setJ _ _ _ _ _ (by omega), if_neg (by omega)]; exact HT.out t (by omega)
          rw [hzj] at HK2 HT2
          have HD : Hid (∀ w, Calls Tryz.prog 45 #[moV (Z.getD j zZ).1 ah nh ch] w fun e w' => e = .returned (.bool false) ∧ w' = w.alloc (.cells #[.int .u64 (((Z.getD j zZ).1 : Nat) : Int), .slice ah nh ch] 34)) := fun w => by
            have h := del_any (Z.getD j zZ).1 ah nh ch w; rw [decide_eq_false h0] at h; exact h
          obtain ⟨cc, hcc⟩ : ∃ cc, cc = (Z.getD j zZ).1 := ⟨_, rfl⟩
          rw [← hcc] at HK2 HT2 HD c0
          obtain ⟨w2, hw2⟩ : ∃ w2, w2 = (wr.alloc (.cells #[.int .u64 ((cc : Nat) : Int), .slice ah nh ch] 34)).alloc (.cells #[.int .u64 ((cc : Nat) : Int), .slice ah nh ch] 34) := ⟨_, rfl⟩
          have hown2 : w2.ownsRow B 34 2 (.slice (some ⟨g, 0, none⟩) n cap) n (mcells Z') := by rw [hw2]; exact (HOW.out.alloc _).alloc _
          have HG2 : w.grownBy w2 (some g) := by rw [hw2]; exact grown_tr (grown_tr HG.out (World.grownBy_alloc _ _ _)) (World.grownBy_alloc _ _ _)
          obtain ⟨g', hge, e0, e1⟩ := (ZR.of_own hown2).2 i (by omega)
          simp only [Option.some.injEq, Addr.mk.injEq, and_true] at hge
          subst hge
          obtain ⟨⟨cur, hcur⟩, -, -⟩ := own_shape hown2
          have f0 : w2.frozen? ⟨g, i * 2, none⟩ = false := by simp [World.frozen?, hcur]
          have f1 : w2.frozen? ⟨g, i * 2 + 1, none⟩ = false := by simp [World.frozen?, hcur]
          have b0 : w2.cell? ⟨wr.heap.size, 0, none⟩ = some (.int .u64 ((cc : Nat) : Int)) := by rw [hw2, World.cell?_alloc_past _ _ _ (by simp), World.cell?_alloc_new]; rfl
          have b1 : w2.cell? ⟨wr.heap.size, 1, none⟩ = some (.slice ah nh ch) := by rw [hw2, World.cell?_alloc_past _ _ _ (by simp), World.cell?_alloc_new]; rfl
          have HOW3 : Hid (((w2.setCell ⟨g, i * 2, none⟩ (.int .u64 ((cc : Nat) : Int))).setCell ⟨g, i * 2 + 1, none⟩ (.slice ah nh ch)).ownsRow B 34 2 (.slice (some ⟨g, 0, none⟩) n cap) n (mcells (Z'.set i (cc, .slice ah nh ch)))) := by
            unfold Hid
            rw [mcells_set2 _ _ _ _ (by omega)]
            exact ownsRow_set (ownsRow_set hown2 _ _ (by omega)) _ _ (by omega)
          have HG3 : Hid (w.grownBy ((w2.setCell ⟨g, i * 2, none⟩ (.int .u64 ((cc : Nat) : Int))).setCell ⟨g, i * 2 + 1, none⟩ (.slice ah nh ch)) (some g)) := grown_tr (grown_tr HG2 (setCell_gb _ _ _)) (setCell_gb _ _ _)
          have HW2 := Lib.hid hw2
          clear hR2 hh hKS hzj h0 HK HT HOW HG hzl hown2 HG2 hcur hcc hw2
          go_wp2_with (go_at_call 45; refine (HD.out _).mono ?_; rintro e w' ⟨rfl, rfl⟩; rw [← HW2.out])
          go_roundw
          case rel => exact ⟨i + 1, j + 1, _, by omega, by omega, by simp, by simp, HOW3, HK2, HT2, HG3⟩
          case measure => simp [intOf]; omega
      · obtain rfl : j = n := by omega
        obtain ⟨w', hrun, hown', hg'⟩ := clear_tail HOW.out hij (cap - i)
        have hKZ : Z'.take i = keepZ Z := by rw [HK.out, HN.out, List.take_length]
        have HLEN : Hid (i = (keepZ Z).length) := by
          unfold Hid; rw [← hKZ, List.length_take]; have := (ZR.of_own HOW.out).1; omega
        rw [hKZ] at hown'
        have HOW' := Lib.hid hown'
        have HG' := Lib.hid (grown_tr HG.out hg')
        clear hown' hg' hKZ HK HT HOW HG
        have hle1 : (i : Int) ≤ (j : Int) := by omega
        obtain ⟨hc1, hc2⟩ := hcap
        have hle2 : (i : Int) ≤ (cap : Int) := by omega
        have hle3 : i ≤ cap := by omega
        go_wp2
        go_ret
        rw [← HLEN.out]
        exact ⟨rfl, HOW'.out, HG'.out⟩
end Go.Proofs.YtnmdfldgpbfbbaaGreatDoor

/- compareMonos, slices.CompareFunc; slices.SortFunc of monomials. -/
namespace Go.Proofs.YtnmdfldgpbfbbaaGreatDoor
open Go.Shelf Go.RowKit Go.Lib Go.Sort
set_option linter.unusedVariables false

/-- w' is w with draws and new blocks. -/
def GrW (w w' : World) : Prop := ∃ q os, w' = grow (w.drewN q) os
theorem GrW.refl (w : World) : GrW w w := ⟨0, #[], by simp [World.drewN]⟩
theorem GrW.grow {w w' : World} (h : GrW w w') (q : Nat) (os : Array Obj) : GrW w (grow (w'.drewN q) os) := by
  obtain ⟨q1, os1, rfl⟩ := h
  refine ⟨q1 + q, os1 ++ os, ?_⟩
  rw [← grow_grow]
  unfold Go.Sort.grow World.drewN
  simp [Nat.add_assoc]
theorem GrW.alloc {w w' : World} (h : GrW w w') (o : Obj) : GrW w (w'.alloc o) := by
  have := h.grow 0 #[o]
  rw [alloc_eq_grow]
  exact this
theorem GrW.cell {w w' : World} (h : GrW w w') {a : Addr} {v : Value} (hc : w.cell? a = some v) : w'.cell? a = some v := by
  obtain ⟨q, os, rfl⟩ := h
  rw [cell?_grow _ _ _ (by have := cell_size hc; exact this)]
  exact hc
theorem GrW.trans {a b c : World} (h : GrW a b) (k : GrW b c) : GrW a c := by
  obtain ⟨q, os, rfl⟩ := k; exact h.grow q os
theorem VRd.grw {w w' : World} {v : Value} {l : List Vr} (h : VRd w v l) (k : GrW w w') : VRd w' v l := by
  obtain ⟨q, os, rfl⟩ := k
  exact h.of_cells fun b o n c _ _ hb => heap_grow_old _ _ hb
theorem cmpL_drop (l m : List Vr) (k : Nat) (h1 : k < l.length) (h2 : k < m.length) : cmpL (l.drop k) (m.drop k) = if cmpV (l.getD k zV) (m.getD k zV) = 0 then cmpL (l.drop (k + 1)) (m.drop (k + 1)) else cmpV (l.getD k zV) (m.getD k zV) := by
  rw [List.drop_eq_getElem_cons h1, List.drop_eq_getElem_cons h2]
  have e1 : l.getD k zV = l[k] := by rw [List.getD_eq_getElem?_getD, List.getElem?_eq_getElem h1]; rfl
  have e2 : m.getD k zV = m[k] := by rw [List.getD_eq_getElem?_getD, List.getElem?_eq_getElem h2]; rfl
  rw [e1, e2]; rfl
theorem cmpL_long (l m : List Vr) (k : Nat) (h1 : k < l.length) (h2 : m.length ≤ k) : cmpL (l.drop k) (m.drop k) = 1 := by
  rw [List.drop_eq_getElem_cons h1, List.drop_eq_nil_of_le h2]; rfl
theorem cmpL_short (l m : List Vr) (k : Nat) (h1 : l.length ≤ k) (h2 : k < m.length) : cmpL (l.drop k) (m.drop k) = -1 := by
  rw [List.drop_eq_getElem_cons h2, List.drop_eq_nil_of_le h1]; rfl
theorem cmpL_end (l m : List Vr) (k : Nat) (h1 : l.length ≤ k) (h2 : m.length ≤ k) : cmpL (l.drop k) (m.drop k) = 0 := by
  rw [List.drop_eq_nil_of_le h1, List.drop_eq_nil_of_le h2]; rfl

set_option maxHeartbeats 2000000 in
theorem compf_any (l m : List Vr) (va vb : Value) (w : World) (hA : VRd w va l) (hB : VRd w vb m) :
    Calls Tryz.prog 66 #[va, vb, .func (.func 42) #[] #[]] w fun e w' => e = .returned (.int .i64 (cmpL l m)) ∧ GrW w w' := by
  obtain ⟨a, ac, rfl⟩ := hA.shape
  obtain ⟨b, bc, rfl⟩ := hB.shape
  have hLa := hA.2.1
  have hLb := hB.2.1
  have HA := Lib.hid hA.cells
  have HB := Lib.hid hB.cells
  obtain ⟨n, hn⟩ : ∃ n, l.length = n := ⟨_, rfl⟩
  obtain ⟨p, hp⟩ : ∃ p, m.length = p := ⟨_, rfl⟩
  have HN := Lib.hid hn
  have HP := Lib.hid hp
  rw [hn] at HA hLa ⊢
  rw [hp] at HB hLb ⊢
  clear hA hB hn hp
  go_enter Tryz.func66, Tryz.ntmps66
  go_wp2_with fail
  go_loopw [13] (fun vi wr => ∃ k : Nat, k ≤ n ∧ vi = .int .i64 (k : Int) ∧ Hid (cmpL l m = cmpL (l.drop k) (m.drop k)) ∧ Hid (GrW w wr)) (fun vi _ => n - (intOf vi).toNat)
  case atStart => exact ⟨0, Nat.zero_le _, rfl, Lib.hid rfl, Lib.hid (GrW.refl _)⟩
  case round =>
    rename World => wr
    obtain ⟨k, hk, rfl, HK, HO⟩ := hrel
    by_cases hlt : k < n
    · obtain ⟨b1, o1, rfl, c0, c1⟩ := HA.out k hlt
      have c0' := HO.out.cell c0
      have c1' := HO.out.cell c1
      have hlt' : (k : Int) < (n : Int) := by omega
      have hkl : k < l.length := by rw [HN.out]; exact hlt
      by_cases hkp : k < p
      · obtain ⟨b2, o2, rfl, d0, d1⟩ := HB.out k hkp
        have d0' : ∀ o, (wr.alloc o).cell? ⟨b2, o2 + k * 2, none⟩ = _ := fun o => (HO.out.alloc o).cell d0
        have d1' : ∀ o, (wr.alloc o).cell? ⟨b2, o2 + k * 2 + 1, none⟩ = _ := fun o => (HO.out.alloc o).cell d1
        have hkp' : (k : Int) < (p : Int) := by omega
        have hkp2 : ¬ ((p : Nat) : Int) ≤ (k : Int) := by omega
        have HS := Lib.hid (cmpL_drop l m k hkl (by rw [HP.out]; exact hkp))
        clear c0 c1 d0 d1 hkl
        generalize l.getD k zV = X at *
        generalize m.getD k zV = Y at *
        obtain ⟨xk, xi⟩ := X
        obtain ⟨yk, yi⟩ := Y
        simp only at c0' c1' d0' d1'
        have HC := Lib.hid (fun W => cmpv_any (xk, xi) (yk, yi) W)
        have HX : Hid (∀ o o' q os, GrW w (grow (((wr.alloc o).alloc o').drewN q) os)) := fun o o' q os => ((HO.out.alloc o).alloc o').grow q os
        by_cases h0 : cmpV (xk, xi) (yk, yi) = 0
        · have HK2 : Hid (cmpL l m = cmpL (l.drop (k + 1)) (m.drop (k + 1))) := by unfold Hid; rw [HK.out, HS.out, if_pos h0]
          rw [h0] at HC
          clear HS HK h0
          go_wp2_with (go_at_call 42; refine (HC.out _).mono ?_; rintro e w' ⟨rfl, q, os, rfl⟩)
          go_roundw
          case rel => exact ⟨k + 1, by omega, by simp, HK2, Lib.hid (HX.out _ _ _ _)⟩
          case measure => simp [intOf]; omega
        · have HK2 : Hid (cmpL l m = cmpV (xk, xi) (yk, yi)) := by unfold Hid; rw [HK.out, HS.out, if_neg h0]
          obtain ⟨r, hr⟩ : ∃ r, r = cmpV (xk, xi) (yk, yi) := ⟨_, rfl⟩
          rw [← hr] at HC HK2 h0
          have hne : (r != 0) = true := by simpa using h0
          clear HS HK h0 hr
          go_wp2_with (go_at_call 42; refine (HC.out _).mono ?_; rintro e w' ⟨rfl, q, os, rfl⟩)
          go_ret
          exact ⟨by rw [HK2.out]; rfl, HX.out _ _ _ _⟩
      · have HK2 : Hid (cmpL l m = 1) := by unfold Hid; rw [HK.out]; exact cmpL_long l m k hkl (by rw [HP.out]; omega)
        have hkp' : ((p : Nat) : Int) ≤ (k : Int) := by omega
        have HX : Hid (∀ o, GrW w (wr.alloc o)) := fun o => HO.out.alloc o
        clear HK c0 c1
        go_wp2
        go_ret
        exact ⟨by rw [HK2.out]; rfl, HX.out _⟩
    · obtain rfl : k = n := by omega
      by_cases hkp : k < p
      · have HK2 : Hid (cmpL l m = -1) := by unfold Hid; rw [HK.out]; exact cmpL_short l m k (by rw [HN.out]; exact Nat.le_refl _) (by rw [HP.out]; exact hkp)
        have hkp' : (k : Int) < (p : Int) := by omega
        clear HK
        go_wp2
        go_ret
        exact ⟨by rw [HK2.out]; rfl, HO.out⟩
      · have HK2 : Hid (cmpL l m = 0) := by unfold Hid; rw [HK.out]; exact cmpL_end l m k (by rw [HN.out]; exact Nat.le_refl _) (by rw [HP.out]; omega)
        have hkp' : ¬ (k : Int) < (p : Int) := by omega
        clear HK
        go_wp2
        go_ret
        exact ⟨by rw [HK2.out]; rfl, HO.out⟩
theorem cmpm_any (c d : Nat) (l m : List Vr) (a : Option Addr) (ac : Nat) (b : Option Addr) (bc : Nat) (w : World) (hA : VRd w (.slice a l.length ac) l) (hB : VRd w (.slice b m.length bc) m) :
    Calls Tryz.prog 47 #[moV c a l.length ac, moV d b m.length bc] w fun e w' => e = .returned (.int .i64 (cmpM l m)) ∧ GrW w w' := by
  have HG0 := Lib.hid (GrW.refl w)
  by_cases h : l.length = m.length
  · have e : cmpM l m = cmpL l m := if_pos h
    have HC : Hid (∀ w', GrW w w' → _) := fun w' hw => compf_any l m _ _ w' (hA.grw hw) (hB.grw hw)
    have hb : (((l.length : Nat) : Int) != ((m.length : Nat) : Int)) = false := by simp; omega
    rw [e]
    generalize cmpL l m = r at *
    clear e h hA hB
    generalize l.length = n at *
    generalize m.length = p at *
    go_enter Tryz.func47, Tryz.ntmps47
    go_wp2_with (go_at_call 66; refine (HC.out _ ((HG0.out.alloc _).alloc _)).mono ?_; rintro e w' ⟨rfl, hg⟩)
    go_ret
    exact ⟨rfl, ((HG0.out.alloc _).alloc _).trans hg⟩
  · have e : cmpM l m = Lib.compareInt l.length m.length := if_neg h
    have HC := Lib.hid (fun w => cmpI_any (l.length : Int) (m.length : Int) w)
    have hb : (((l.length : Nat) : Int) != ((m.length : Nat) : Int)) = true := by simp; omega
    rw [e]
    generalize Lib.compareInt l.length m.length = r at *
    clear e h hA hB
    generalize l.length = n at *
    generalize m.length = p at *
    go_enter Tryz.func47, Tryz.ntmps47
    go_wp2_with (go_at_call 61; refine (HC.out _).mono ?_; rintro e w' ⟨rfl, rfl⟩)
    go_ret
    exact ⟨rfl, (HG0.out.alloc _).alloc _⟩
end Go.Proofs.YtnmdfldgpbfbbaaGreatDoor

/- slices.SortFunc of monomials; normal. -/
namespace Go.Proofs.YtnmdfldgpbfbbaaGreatDoor
open Go.Shelf Go.RowKit Go.Lib Go.Sort
set_option linter.unusedVariables false

/-- The cells of monomial number i. -/
def encM (Z : List (Nat × Value)) (i : Nat) : List Value := [.int .u64 (((Z.getD i zZ).1 : Nat) : Int), (Z.getD i zZ).2]
def cfM (L : List Mo) (i j : Nat) : Int := cmpM (L.getD i zM).2 (L.getD j zM).2
theorem swoM (L : List Mo) : SWO (ltOf (cfM L)) where
  irrefl x := by unfold ltOf cfM; simp [goodM.refl]
  trans x y z h1 h2 := by unfold ltOf cfM at *; simp only [decide_eq_true_eq] at *; exact goodM.trans _ _ _ h1 h2
  ntrans x y z h1 h2 := by unfold ltOf cfM at *; simp only [decide_eq_false_iff_not] at *; exact goodM.ntrans h1 h2
theorem encM_one {w : World} {Z : List (Nat × Value)} {L : List Mo} (h : Fits w Z L) (i : Nat) : ∀ v ∈ encM Z i, v.oneCell' = true := by
  intro v hv
  simp only [encM, List.mem_cons, List.not_mem_nil, or_false] at hv
  obtain ⟨a, n, c, e⟩ := h.zok i
  rcases hv with rfl | rfl
  · rfl
  · rw [e]; rfl
/-- A header with its monomial's variables, also past the end. -/
theorem Fits.ent {w : World} {Z : List (Nat × Value)} {L : List Mo} (h : Fits w Z L) (i : Nat) : (Z.getD i zZ).1 = (L.getD i zM).1 ∧ Ent w (Z.getD i zZ).2 (L.getD i zM).2 := by
  rcases Nat.lt_or_ge i L.length with hi | hi
  · exact h.2 i hi
  · rw [List.getD_eq_getElem?_getD, List.getElem?_eq_none (by rw [h.1]; exact hi), List.getD_eq_getElem?_getD, List.getElem?_eq_none hi]
    exact ⟨rfl, VRd.nil _ _ _, fun g o n c e h0 => by simp at e⟩
theorem sort_gb {α : Type} [Inhabited α] (enc : α → List Value) (k : Nat) (w : World) (g off n : Nat) (d : Array α) (os : Array Obj) : w.grownBy (sortWorldK enc k w g off n d os) (some g) := ap_sort enc k w g off n d os
theorem grw_grow {w w' : World} (h : GrW w w') : ∃ q os, w' = grow (w.drewN q) os := h
set_option maxRecDepth 100000 in
theorem cmpLaysM {w : World} {Z : List (Nat × Value)} {L : List Mo} (h : Fits w Z L) (g size : Nat) (hg : ∀ cur fz, w.heap[g]? ≠ some (.cells cur 39 fz)) : CmpLays Tryz.prog 47 #[] (encM Z) 2 (cfM L) g 0 size w := by
  intro m os dk hd x y
  have hgb := sort_gb (encM Z) 2 w g 0 m dk os
  have hr : ∀ r, (some g : Option Nat) = some r → ∀ cur fz, w.heap[r]? ≠ some (.cells cur 39 fz) := fun r e => by
    simp only [Option.some.injEq] at e; subst e; exact hg
  have hx := (h.ent x).2.gb hgb hr
  have hy := (h.ent y).2.gb hgb hr
  obtain ⟨ax, cx, ex⟩ := hx.shape
  obtain ⟨ay, cy, ey⟩ := hy.shape
  have e1 : Value.agg (encM Z x).toArray = moV (Z.getD x zZ).1 ax (L.getD x zM).2.length cx := by unfold encM; rw [ex]
  have e2 : Value.agg (encM Z y).toArray = moV (Z.getD y zZ).1 ay (L.getD y zM).2.length cy := by unfold encM; rw [ey]
  have h1 := hx.1
  have h2 := hy.1
  rw [ex] at h1
  rw [ey] at h2
  clear hgb hr hx hy ex ey
  rw [e1, e2]
  clear e1 e2
  generalize sortWorldK (encM Z) 2 w g 0 m dk os = W at *
  exact cmpm_any (Z.getD x zZ).1 (Z.getD y zZ).1 (L.getD x zM).2 (L.getD y zM).2 ax cx ay cy W h1 h2
set_option maxRecDepth 100000 in
theorem flat_get (Z : List (Nat × Value)) (d : Array Nat) (t : Nat) (h : t < d.size) : (flatK (encM Z) 2 d)[t * 2]! = .int .u64 (((Z.getD d[t]! zZ).1 : Nat) : Int) ∧ (flatK (encM Z) 2 d)[t * 2 + 1]! = (Z.getD d[t]! zZ).2 := by
  rw [get_flatK _ _ _ _ (by omega), get_flatK _ _ _ _ (by omega), show t * 2 / 2 = t by omega, show t * 2 % 2 = 0 by omega, show (t * 2 + 1) / 2 = t by omega, show (t * 2 + 1) % 2 = 1 by omega]
  exact ⟨rfl, rfl⟩
theorem range_bang (n i : Nat) (h : i < n) : (List.range n).toArray[i]! = i := by
  rw [getElem!_pos _ i (by simpa using h)]; simp
theorem sortS_unique {L M : List Mo} (hd : ∀ a ∈ L, ∀ b ∈ L, a.2 = b.2 → a = b) (hp : M.Perm L) (hs : M.Pairwise fun a b => ¬ cmpS b a < 0) : M = sortB cmpS L := by
  have hS : (sortB cmpS L).Pairwise fun a b => ¬ cmpS b a < 0 := by
    have ins : ∀ (x : Mo) (l : List Mo), l.Pairwise (fun a b => ¬ cmpS b a < 0) → (insB cmpS x l).Pairwise (fun a b => ¬ cmpS b a < 0) := by
      intro x l
      induction l with
      | nil => intro _; simp [insB]
      | cons y r ih =>
        intro ha
        obtain ⟨h1, h2⟩ := List.pairwise_cons.1 ha
        unfold insB
        split
        · rename_i e
          refine List.pairwise_cons.2 ⟨fun z hz => ?_, ih h2⟩
          rcases List.mem_cons.1 ((insB_perm cmpS x r).mem_iff.1 hz) with rfl | hz
          · exact goodM.asymm e
          · exact h1 z hz
        · rename_i e
          refine List.pairwise_cons.2 ⟨fun z hz => ?_, ha⟩
          rcases List.mem_cons.1 hz with rfl | hz
          · exact e
          · exact goodM.ntrans (h1 z hz) e
    have key : ∀ l : List Mo, (sortB cmpS l).Pairwise (fun a b => ¬ cmpS b a < 0) := by
      intro l
      induction l with
      | nil => exact List.Pairwise.nil
      | cons x r ih => exact ins x _ ih
    exact key L
  refine List.Perm.eq_of_pairwise (le := fun a b => ¬ cmpS b a < 0) (fun a b ha hb h1 h2 => ?_) hs hS (hp.trans (sortB_perm cmpS L).symm)
  exact hd a (hp.mem_iff.1 ha) b ((sortB_perm cmpS L).mem_iff.1 hb) (goodM.not h2 h1)

set_option maxRecDepth 100000 in
/-- slices.SortFunc of a list of monomials that the call owns. -/
theorem sortm_own {B : Nat} {w : World} {a : Option Addr} {cap n : Nat} {Z : List (Nat × Value)} {L : List Mo} (hown : w.ownsRow B 34 2 (.slice a n cap) n (mcells Z)) (hF : Fits w Z L) (hn : n = L.length) (hL : n ≤ 1000000)
    (hd : ∀ a ∈ L, ∀ b ∈ L, a.2 = b.2 → a = b) (hco : ∀ m ∈ L, m.1 ≤ 18446744073709551615) :
    Calls Tryz.prog 46 #[.slice a n cap, .func (.func 47) #[] #[]] w fun e w' => e = .returned (.tuple #[]) ∧ MRd w' (.slice a n cap) (sortB cmpS L) ∧ ∀ W, On W w → W.heap.size ≤ B → On W w' := by
  have hsl : (sortB cmpS L).length = L.length := sortB_len _ _
  have hco' : ∀ m ∈ sortB cmpS L, m.1 ≤ 18446744073709551615 := fun m hm => hco m ((sortB_perm _ _).mem_iff.1 hm)
  rcases hown.2 with ⟨he, h0⟩ | ⟨g, cap', cur, he, hb, hg, hc1, hc2, hc3, hc4⟩
  · simp only [Value.slice.injEq] at he
    obtain ⟨rfl, rfl, rfl⟩ := he
    obtain rfl : L = [] := List.length_eq_zero_iff.1 hn.symm
    have h := AnyF.slices_SortFunc_none { Tryz.sortM with } none 0 (.func (.func 47) #[] #[]) w
    change Calls Tryz.prog 46 _ _ _ at h
    exact h.mono fun e w' ⟨h1, h2⟩ => by
      subst h2
      exact ⟨h1, MRd.nil _ _ _, fun W hW _ => hW⟩
  · simp only [Value.slice.injEq] at he
    obtain ⟨rfl, -, rfl⟩ := he
    have hgl := (Array.getElem?_eq_some_iff.1 hg).1
    have hgv : ∀ cur fz, w.heap[g]? ≠ some (.cells cur 39 fz) := fun cur2 fz e => tag_ne hg e (by decide) rfl
    have hZR := ZR.of_own hown
    have eg : ∀ args w, (callFunc 47 args).run Tryz.prog w = .ok (.enter 47 args) w := enters_of Tryz.func47 (by kernel_rfl) rfl
    obtain ⟨d, hdd⟩ : ∃ d, d = (List.range n).toArray := ⟨_, rfl⟩
    have hds : d.size = n := by rw [hdd]; simp
    have hH : HoldsK (encM Z) 2 w g 0 d := by
      intro j hj
      have hj' : j < n * 2 := by rw [size_flatK, hds] at hj; exact hj
      obtain ⟨g', hge, c0, c1⟩ := hZR.2 (j / 2) (by omega)
      simp only [Option.some.injEq, Addr.mk.injEq, and_true] at hge
      subst hge
      refine ⟨?_, by simp [World.frozen?, hg]⟩
      have hf := flat_get Z d (j / 2) (by omega)
      have hdj : d[j / 2]! = j / 2 := by rw [hdd]; exact range_bang _ _ (by omega)
      rw [hdj] at hf
      rw [Nat.zero_add]
      rcases Nat.mod_two_eq_zero_or_one j with h0 | h1
      · rw [show j / 2 * 2 = j by omega] at hf c0
        rw [hf.1]; exact c0
      · rw [show j / 2 * 2 + 1 = j by omega] at hf c1
        rw [hf.2]; exact c1
    have hcon := AnyQ.slices_SortFunc Tryz.sortM 2 Tryz.isAgg34 Tryz.sizeOf34 (encM Z) (fun _ => rfl) (encM_one hF) (cfM L) (swoM L) 47 #[] g 0 cap d w eg (cmpLaysM hF g d.size hgv) hH hgl (by omega)
    change Calls Tryz.prog 46 _ _ _ at hcon
    rw [hds] at hcon
    refine hcon.mono ?_
    rintro e w' ⟨rfl, d', q, os, hp, hs, rfl⟩
    have hsz : d'.size = d.size := hp.1
    have hpl : d'.toList.Perm (List.range n) := by
      obtain ⟨-, -, hperm⟩ := hp
      have e1 : d'.extract 0 n = d' := by rw [← hds, ← hsz]; exact Array.extract_size
      have e2 : d.extract 0 n = d := by rw [← hds]; exact Array.extract_size
      rw [e1, e2, hdd] at hperm
      simpa using hperm
    have hML : (d'.toList.map fun i => L.getD i zM) = sortB cmpS L := by
      refine sortS_unique hd ?_ ?_
      · refine (hpl.map _).trans ?_
        rw [hn]
        have : (List.range L.length).map (fun i => L.getD i zM) = L := by
          apply List.ext_getElem (by simp)
          intro i h1 h2
          rw [List.getElem_map, List.getElem_range, List.getD_eq_getElem?_getD, List.getElem?_eq_getElem h2]; rfl
        rw [this]
      · rw [List.pairwise_map, List.pairwise_iff_getElem]
        intro i j hi hj hij
        have hi' : i < d'.size := by simpa using hi
        have hj' : j < d'.size := by simpa using hj
        have := hs i j (Nat.zero_le _) hij (by omega)
        rw [getElem!_pos d' j hj', getElem!_pos d' i hi'] at this
        unfold ltOf cfM at this
        simpa [cmpS] using this
    have hgb := sort_gb (encM Z) 2 w g 0 q d' os
    have hr : ∀ r, (some g : Option Nat) = some r → ∀ cur fz, w.heap[r]? ≠ some (.cells cur 39 fz) := fun r e => by
      simp only [Option.some.injEq] at e; subst e; exact hgv
    have hk := holdsK_sortWorldK (encM Z) 2 w g 0 q d d' os hgl hH hsz
    refine ⟨rfl, ⟨hco', by omega, .inr ⟨g, 0, cap, by rw [hsl, hn], fun i hi => ?_⟩⟩, fun W hW hBW => hW.gbv hgb (fun r hr => by simp only [Option.some.injEq] at hr; omega)⟩
    have hid : i < d'.size := by omega
    have hmi : (sortB cmpS L).getD i zM = L.getD d'[i]! zM := by
      rw [← hML, List.getD_eq_getElem?_getD, List.getElem?_map, List.getElem?_eq_getElem (by simpa using hid), getElem!_pos d' i hid]; simp
    have hf := flat_get Z d' i hid
    have c0 := (hk (i * 2) (by simp; omega)).1
    have c1 := (hk (i * 2 + 1) (by simp; omega)).1
    rw [Nat.zero_add] at c0 c1 ⊢
    rw [hf.1] at c0
    rw [hf.2] at c1
    have he := (hF.ent d'[i]!)
    rw [hmi]
    refine ⟨by rw [← he.1]; exact c0, _, c1, (he.2.gb hgb hr).1⟩
end Go.Proofs.YtnmdfldgpbfbbaaGreatDoor
