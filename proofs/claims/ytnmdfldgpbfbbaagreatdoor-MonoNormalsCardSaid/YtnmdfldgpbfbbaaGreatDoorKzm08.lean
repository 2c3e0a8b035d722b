/- append of a list of cells to a grown list; slices.Grow of nothing; slices.Concat of variables. -/
import Derived.Test.YtnmdfldgpbfbbaaGreatDoorKzm07
import Derived.Maps.AppendAt
import Derived.OwnWalk
set_option linter.unusedSimpArgs false
set_option linter.unusedVariables false
/- append of a list of cells to a grown list; slices.Grow of nothing; slices.Concat of variables. -/
namespace Go.Proofs.YtnmdfldgpbfbbaaGreatDoor
open Go.Shelf Go.RowKit Go.Lib Go.Sort
set_option linter.unusedVariables false

theorem wp_appendJ {P : Program} {w w' : World} {ops : Array Oper} {rest : List Oper} {o : Oper} {a : Act} {Q : Exit → Act → World → Prop} (hgd : o.guard = none) (s x : Operand) (t u : TypeId)
    (ho : o.op = .call { callee := .builtin .append, args := #[s, x], argTypes := #[t, u] }) (vs vx v' : Value) (hs : a.eval s = vs) (hx : a.eval x = vx) (hrun : ∀ ty, (Builtin.append_ #[t, u] ty #[vs, vx]).run P w = .ok v' w')
    (h : wpList P ops Q rest (a.put o.dst v') w') : wpList P ops Q (o :: rest) a w :=
  wpList_plain hgd fun K hK => by
    unfold Oper.wp execOp
    simp only [ho, resolve, invoke, builtin, Sem.run_bind, Sem.run_pure, Result.andThen_ok, List.map_toArray, List.map_cons, List.map_nil, hs, hx, hrun]
    exact hK _ _ h
/-- append of m elements (or none, at whatever address) to a grown list. -/
theorem append_cells {P : Program} (w : World) (base : Nat) (t e : TypeId) (i : TypeInfo) (z : Value) (size bytes : Nat) (ht : P.underlying t = some (.slice e)) (hi : P.info? e = some i) (hz : i.zero = some z)
    (hsize : i.size = size) (hby : i.bytes = bytes) (hzs : z.cells.size = size) (hsz : 0 < size)
    (v : Value) (n : Nat) (xs : List Value) (hown : w.ownsRow base e size v n xs)
    (oa : Option Addr) (m c : Nat) (news : List Value) (hl : news.length = m * size) (hnews : 0 < m → ∃ a, oa = some a ∧ ∀ j u, news[j]? = some u → w.cell? (a.add j) = some u) (h1 : ∀ u ∈ news, u.oneCell' = true)
    (h63 : n + m ≤ maxLen) (hbytes : (n + m) * bytes ≤ 140737488355328) (hbase : base ≤ w.heap.size) :
    ∃ v' w', (∀ ty, (Builtin.append_ #[t, t] ty #[v, .slice oa m c]).run P w = .ok v' w') ∧ w'.ownsRow base e size v' (n + m) (xs ++ news) ∧ w.grownBy w' v.ownBlock ∧ (v'.ownBlock = v.ownBlock ∨ v'.ownBlock = some w.heap.size) := by
  cases oa with
  | some a =>
    obtain ⟨v', w', hr, h2, h3, h4, h5⟩ := run_append_own_at (P := P) w base t 0 e i z size bytes ht hi hz hsize hby hzs hsz v n xs hown a m c news hl (fun j u hj => by
      have hm : 0 < m := by
        have := (List.getElem?_eq_some_iff.1 hj).1
        rcases Nat.eq_zero_or_pos m with h0 | h0
        · rw [hl, h0, Nat.zero_mul] at this; omega
        · exact h0
      obtain ⟨a', ha, hc⟩ := hnews hm
      simp only [Option.some.injEq] at ha
      subst ha
      exact hc j u hj) h1 h63 hbytes hbase
    exact ⟨v', w', fun ty => hr, h2, h3, h5⟩
  | none =>
    have hm : m = 0 := by
      rcases Nat.eq_zero_or_pos m with h0 | h0
      · exact h0
      · obtain ⟨a, ha, _⟩ := hnews h0; cases ha
    subst hm
    have hn : news = [] := List.eq_nil_of_length_eq_zero (by simpa using hl)
    subst hn
    refine ⟨v, w, fun ty => ?_, by simpa using hown, ⟨rfl, rfl, rfl, Nat.le_refl _, fun _ _ _ => rfl⟩, .inl rfl⟩
    rcases hown.2 with ⟨rfl, rfl⟩ | ⟨g, cap, cur, rfl, hb, hg, h2, h3, h4, h5⟩
    · simp [Builtin.append_, run_underlying ht, sizeOf, typeInfo, hi, Builtin.lenOf, Builtin.firstCells, loadCells, loadCellsFrom]
    · simp [Builtin.append_, run_underlying ht, sizeOf, typeInfo, hi, Builtin.lenOf, Builtin.firstCells, loadCells, loadCellsFrom, h2, storeCells]
/-- append(nil, make([]E, n)...): a new block. -/
theorem append_make_nil {P : Program} (w : World) (t u ty e : TypeId) (i : TypeInfo) (z : Value) (ht : P.underlying t = some (.slice e)) (hu : P.underlying u = some (.int .i64)) (hi : P.info? e = some i) (hz : i.zero = some z)
    (n : Nat) (h0 : 0 < n) (hs : 0 < i.size) (hb : 0 < i.bytes) (hby : n * i.bytes ≤ 140737488355328) (h63 : (n : Int) ≤ 9223372036854775807) :
    (Builtin.append_ #[t, u] ty #[.slice none 0 0, .int .i64 (n : Int)]).run P w =
      .ok (.slice (some ⟨w.heap.size, 0, none⟩) n (grownCap w n 0 e)) (w.drew.alloc (.cells (Builtin.zeroCells z.cells n ++ Builtin.zeroCells z.cells (grownCap w n 0 e - n)) e)) := by
  have hn : n ≠ 0 := by omega
  have hw : IntKind.i64.wrap (n : Int) = (n : Int) := IntWalk.i64_in _ (by omega)
  have e1 : ¬ (281474976710656 < (n : Int) * (i.bytes : Int)) := by
    have : ((n * i.bytes : Nat) : Int) ≤ 140737488355328 := by omega
    rw [Int.natCast_mul] at this; omega
  have h63' : ¬ (9223372036854775807 < (n : Int)) := by omega
  have h48' : ¬ (281474976710656 < Builtin.nextslicecap n 0 * i.bytes) := by rw [nextslicecap_zero h0]; omega
  have hns : n * i.size ≠ 0 := by have := Nat.mul_pos h0 hs; omega
  simp [Builtin.append_, run_underlying ht, run_underlying hu, sizeOf, typeInfo, zeroValue, hi, hz, asInt, asIntOf, hw, e1, hn, h63', h48', hb, hns, Question.forced, run_firstCells_none, newRow, grownCap]
  intro h; omega
theorem zeroCells_size (z : List Value) (n : Nat) : True := trivial

/-- slices.Grow(nil, n). -/
theorem growv_any (n : Nat) (w : World) (hT : Tab w) (hn : n ≤ 1000000) :
    Calls Tryz.prog 57 #[.slice none 0 0, .int .i64 (n : Int)] w fun e w' => (∃ v, e = .returned v ∧ w'.ownsRow w.heap.size 39 2 v 0 []) ∧ On w w' := by
  have H0 := Lib.hid (On.refl hT)
  rcases Nat.eq_zero_or_pos n with h0 | h0
  · subst h0
    go_enter Tryz.func57, Tryz.ntmps57
    go_wp2
    go_ret
    exact ⟨⟨_, rfl, World.ownsRow_nil _ _ _ _⟩, H0.out⟩
  · obtain ⟨i0, hi, hz0, hz1, hz2⟩ := info_parts info_vr
    have HRUN := Lib.hid (fun ty => append_make_nil (P := Tryz.prog) w 32 3 ty 39 i0 (.agg #[.int .u8 0, .int .i64 0]) Tryz.underlying32 Tryz.underlying3 hi hz0 n h0 (by rw [hz1]; omega) (by rw [hz2]; omega) (by rw [hz2]; omega) (by omega))
    have hge := grownCap_ge w n 0 39
    have hcm := grownCap_le_maxLen w n 0 39 (by unfold maxLen; omega)
    generalize grownCap w n 0 39 = cc at *
    have HOWN : Hid ((w.drew.alloc (.cells (Builtin.zeroCells (Value.agg #[.int .u8 0, .int .i64 0]).cells n ++ Builtin.zeroCells (Value.agg #[.int .u8 0, .int .i64 0]).cells (cc - n)) 39)).ownsRow w.heap.size 39 2 (.slice (some ⟨w.heap.size, 0, none⟩) 0 cc) 0 []) := by
      refine World.ownsRow_made w.drew _ cc (Nat.le_refl _) hcm ?_
      simp only [Array.size_append, size_zeroCells]
      simp [Value.cells]; omega
    have HO2 : Hid (On w (w.drew.alloc (.cells (Builtin.zeroCells (Value.agg #[.int .u8 0, .int .i64 0]).cells n ++ Builtin.zeroCells (Value.agg #[.int .u8 0, .int .i64 0]).cells (cc - n)) 39))) := H0.out.drew.alloc _
    have hcm2 : cc ≤ 9223372036854775807 := by unfold maxLen at hcm; omega
    clear hi hz0 hz1 hz2 hcm
    generalize w.drew.alloc (.cells (Builtin.zeroCells (Value.agg #[.int .u8 0, .int .i64 0]).cells n ++ Builtin.zeroCells (Value.agg #[.int .u8 0, .int .i64 0]).cells (cc - n)) 39) = w1 at *
    go_enter Tryz.func57, Tryz.ntmps57
    go_wp2_with (at_builtin; refine wp_appendJ rfl (.tmp 20) (.tmp 21) _ _ rfl _ _ _ rfl rfl HRUN.out ?_)
    go_ret
    exact ⟨⟨_, rfl, HOWN.out⟩, HO2.out⟩

/-- The slice v shows m lists of variables, the j-th of which reads as F j. -/
def VLs (w : World) (v : Value) (m : Nat) (F : Nat → List Vr) : Prop :=
  ∃ a cap, v = .slice a m cap ∧ m ≤ 1000 ∧ ∀ j, j < m → ∃ b o u, a = some ⟨b, o, none⟩ ∧ w.cell? ⟨b, o + j, none⟩ = some u ∧ VRd w u (F j)
def catF (F : Nat → List Vr) : Nat → List Vr
  | 0 => []
  | k + 1 => catF F k ++ F k
theorem catF_ok {F : Nat → List Vr} {m : Nat} (h : ∀ j, j < m → ∀ x ∈ F j, okV x) : ∀ k, k ≤ m → ∀ x ∈ catF F k, okV x
  | 0, _, x, hx => by cases hx
  | k + 1, hk, x, hx => by
    rcases List.mem_append.1 hx with hx | hx
    · exact catF_ok h k (by omega) x hx
    · exact h k (by omega) x hx
theorem catF_len {F : Nat → List Vr} : ∀ k m, k ≤ m → (catF F k).length ≤ (catF F m).length
  | k, 0, h => by obtain rfl : k = 0 := by omega
                  exact Nat.le_refl _
  | k, m + 1, h => by
    by_cases e : k = m + 1
    · subst e; exact Nat.le_refl _
    · have := catF_len (F := F) k m (by omega)
      simp only [catF, List.length_append]; omega
theorem append_vr {B : Nat} {w : World} {v : Value} {n : Nat} {xs : List Value} (hown : w.ownsRow B 39 2 v n xs) (hB : B ≤ w.heap.size) {oa : Option Addr} {m c : Nat} {l : List Vr} (hR : VRd w (.slice oa m c) l) (hl : n + m ≤ 2000000) :
    ∃ v' w', (∀ ty, (Builtin.append_ #[32, 32] ty #[v, .slice oa m c]).run Tryz.prog w = .ok v' w') ∧ w'.ownsRow B 39 2 v' (n + m) (xs ++ vcells l) ∧ w.grownBy w' v.ownBlock ∧ (v'.ownBlock = v.ownBlock ∨ v'.ownBlock = some w.heap.size) := by
  obtain ⟨i0, hi, hz0, hz1, hz2⟩ := info_parts info_vr
  have hm := hR.len
  refine append_cells (P := Tryz.prog) w B 32 39 i0 (.agg #[.int .u8 0, .int .i64 0]) 2 16 Tryz.underlying32 hi hz0 hz1 hz2 rfl (by omega) v n xs hown oa m c (vcells l) (by rw [vcells_len, hm]) (fun h0 => ?_) (vcells_one l) (by unfold maxLen; omega) (by omega) hB
  obtain ⟨b, off, rfl, _⟩ := hR.cells 0 (by omega)
  exact ⟨_, rfl, hR.flat⟩
theorem On.gbv {w wr w' : World} {row : Option Nat} (h : On w wr) (hg : wr.grownBy w' row) (hr : ∀ r, row = some r → w.heap.size ≤ r) : On w w' := ⟨h.1, h.2.grown hg h.2.size hr⟩
theorem ownsRow_below {B : Nat} {w : World} {e : TypeId} {k n : Nat} {v : Value} {xs : List Value} (h : w.ownsRow B e k v n xs) : ∀ r, v.ownBlock = some r → B ≤ r := fun r hr => (h.lt r hr).1

set_option maxHeartbeats 1000000 in
theorem concatv_any (v : Value) (m : Nat) (F : Nat → List Vr) (w : World) (hT : Tab w) (hR : VLs w v m F) (hL : (catF F m).length ≤ 1000000) :
    Calls Tryz.prog 40 #[v] w fun e w' => (∃ u, e = .returned u ∧ w'.ownsRow w.heap.size 39 2 u (catF F m).length (vcells (catF F m))) ∧ On w w' := by
  obtain ⟨a, cap, rfl, hm, hC⟩ := hR
  have HC := Lib.hid hC
  have H0 := Lib.hid (On.refl hT)
  have HM := Lib.hid (fun k h => catF_len (F := F) k m h)
  obtain ⟨N, hN⟩ : ∃ N, N = (catF F m).length := ⟨_, rfl⟩
  have HN := Lib.hid hN
  rw [← hN] at hL
  have HG := Lib.hid (growv_any N w hT hL)
  clear hC hT hN
  go_enter Tryz.func40, Tryz.ntmps40
  go_wp2_with fail
  go_loop [3, 11] (fun vs vi => ∃ k q : Nat, k ≤ m ∧ vi = .int .i64 (k : Int) ∧ vs = .int .i64 (q : Int) ∧ Hid (q = (catF F k).length)) (fun _ vi => m - (intOf vi).toNat)
  case atStart => exact ⟨0, 0, Nat.zero_le _, rfl, rfl, Lib.hid rfl⟩
  case round =>
    obtain ⟨k, q, hk, rfl, rfl, HQ⟩ := hrel
    by_cases hlt : k < m
    · obtain ⟨b, o, u, rfl, c0, c1⟩ := HC.out k hlt
      obtain ⟨au, cu, rfl⟩ := c1.shape
      have hlt' : (k : Int) < (m : Int) := by omega
      have HS : Hid ((catF F (k + 1)).length = q + (F k).length) := by unfold Hid; rw [HQ.out]; simp [catF]
      have hq2 : q + (F k).length ≤ 1000000 := by
        rw [← HS.out]; have := HM.out (k + 1) (by omega); rw [← HN.out] at this; omega
      clear c1 HQ
      generalize (F k).length = y at *
      go_wp2
      go_round
      case rel => exact ⟨k + 1, q + y, by omega, by simp, by simp, Lib.hid HS.out.symm⟩
      case measure => simp [intOf]; omega
    · obtain rfl : k = m := by omega
      obtain rfl : q = N := by rw [HQ.out, HN.out]
      clear HQ
      go_wp2_with (go_at_call 57; refine HG.out.mono ?_; rintro e w1 ⟨⟨v1, rfl, hown1⟩, hO1⟩)
      have HO1 := Lib.hid hO1
      have HOW := Lib.hid hown1
      clear hown1 hO1 HG
      go_loopw [6, 27] (fun vs vi wr => ∃ j : Nat, j ≤ k ∧ vi = .int .i64 (j : Int) ∧ Hid (wr.ownsRow w.heap.size 39 2 vs (catF F j).length (vcells (catF F j))) ∧ Hid (On w wr)) (fun _ vi _ => k - (intOf vi).toNat)
      case atStart => exact ⟨0, Nat.zero_le _, rfl, HOW, HO1⟩
      case round =>
        rename World => wr
        obtain ⟨j, hj, rfl, HV, HO⟩ := hrel
        by_cases hjk : j < k
        · obtain ⟨b, o, u, rfl, c0, c1⟩ := HC.out j hjk
          obtain ⟨au, cu, rfl⟩ := c1.shape
          have c0' := (HO.out.cell (p := ⟨b, o + j, none⟩) (cell_size c0)).trans c0
          have hjk' : (j : Int) < (k : Int) := by omega
          have hq2 : (catF F j).length + (F j).length ≤ 2000000 := by
            have := HM.out (j + 1) (by omega); simp only [catF, List.length_append] at this; have := HN.out; omega
          obtain ⟨v', w', hrun, hown', hg, -⟩ := append_vr HV.out HO.out.size (c1.on HO.out) hq2
          have HO2 := Lib.hid (HO.out.gbv hg (fun r hr => ownsRow_below HV.out r hr))
          have HRUN := Lib.hid hrun
          have HV2 : Hid (w'.ownsRow w.heap.size 39 2 v' (catF F (j + 1)).length (vcells (catF F (j + 1)))) := by
            unfold Hid; rw [catF, List.length_append, vcells_append]; exact hown'
          clear hrun hown' hg c0 c1 HV
          go_wp2_with (at_builtin; refine wp_appendJ rfl (.tmp 31) (.tmp 32) _ _ rfl _ _ v' rfl rfl HRUN.out ?_)
          go_roundw
          case rel => exact ⟨j + 1, by omega, by simp, HV2, HO2⟩
          case measure => simp [intOf]; omega
        · obtain rfl : j = k := by omega
          go_wp2
          go_ret
          exact ⟨⟨_, rfl, HV.out⟩, HO.out⟩
end Go.Proofs.YtnmdfldgpbfbbaaGreatDoor
