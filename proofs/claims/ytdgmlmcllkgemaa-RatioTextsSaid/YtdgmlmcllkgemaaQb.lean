/- The document's own numbers: sum and diff: what each call returns. -/
import Derived.Test.YtdgmlmcllkgemaaQa
namespace Go.Proofs.Ytdgmlmcllkgemaa
open Go.RowKit
set_option linter.unusedVariables false

/-- v is a list of the first k limbs of X that was grown in memory from B on. -/
def OwL (B : Nat) (w : World) (v : Value) (k : Nat) (X : Int) : Prop := w.ownsRow B 54 1 v k (limbVals X k)
theorem heap_new2 (w : World) (o : Obj) : (w.alloc o).heap[w.heap.size]? = some o := by
  show (w.heap.push o)[w.heap.size]? = some o
  simp
theorem OwL.nil (B : Nat) (w : World) (X : Int) : OwL B w (.slice none 0 0) 0 X := World.ownsRow_nil w B 54 1
theorem OwL.lv {B : Nat} {w : World} {v : Value} {k : Nat} {X : Int} (h : OwL B w v k X) : Lv w v k X ∧ Zc v := by
  rcases h.2 with ⟨rfl, rfl⟩ | ⟨g, cap, cur, rfl, hb, hg, h1, h2, h3, h4⟩
  · exact ⟨⟨none, 0, rfl, by omega, by omega, fun j hj => by omega⟩, Zc.nil⟩
  · unfold maxLen at h2
    refine ⟨⟨_, cap, rfl, h1, h2, fun j hj => ⟨g, 0, rfl, ?_⟩⟩, Zc.some _ _ _⟩
    rw [Nat.zero_add, World.ownsRow.cellAt h j (by omega)]
    exact limbVals_get X k j hj
theorem limbVals_succ (X : Int) (k : Nat) : limbVals X (k + 1) = limbVals X k ++ [.int .u32 ((dg X k : Nat) : Int)] := by
  unfold limbVals; rw [List.range_succ, List.map_append]; rfl
theorem OwL.append {B : Nat} {w : World} {v : Value} {k : Nat} {X : Int} (h : OwL B w v k X) (hB : B ≤ w.heap.size) (hk : k ≤ 10000000) (z : Int) (hz : z = ((dg X k : Nat) : Int)) :
    ∃ a c w', (∀ ty, (Builtin.append_ #[22, 22] ty #[v, .slice (some ⟨w.heap.size, 0, none⟩) 1 1]).run Try.prog (w.alloc (.cells #[.int .u32 z] 54)) = .ok (.slice a (k + 1) c) w') ∧
      OwL B w' (.slice a (k + 1) c) (k + 1) X ∧ w.grownBy w' v.ownBlock := by
  subst hz
  obtain ⟨i0, hi, hz0, hz1, hz2⟩ := info_parts info_u32
  obtain ⟨wa, hwa⟩ : ∃ wa, wa = w.alloc (.cells #[.int .u32 ((dg X k : Nat) : Int)] 54) := ⟨_, rfl⟩
  have hga : w.grownBy wa none := by rw [hwa]; exact ⟨rfl, rfl, rfl, by simp, fun k hk _ => Below.heap_alloc w _ k hk⟩
  have howna : wa.ownsRow B 54 1 v k (limbVals X k) := by rw [hwa]; exact World.ownsRow.alloc h _
  have hsza : wa.heap.size = w.heap.size + 1 := by rw [hwa]; simp
  have hcell : ∀ j u, [Value.int .u32 ((dg X k : Nat) : Int)][j]? = some u → wa.cell? ((⟨w.heap.size, 0, none⟩ : Addr).add j) = some u := fun j u hj => by
    rw [hwa]
    cases j with
    | zero => simp at hj; subst hj; exact World.cell?_alloc_at _ _ w.heap.size 0 rfl
    | succ j => simp at hj
  rw [← hwa]
  have hls := limbVals_succ X k
  have hll := limbVals_len X k
  generalize limbVals X k = Vs at *
  have key : ∃ v' w', (∀ ty, (Builtin.append_ #[22, 22] ty #[v, .slice (some ⟨w.heap.size, 0, none⟩) 1 1]).run Try.prog wa = .ok v' w') ∧ w'.ownsRow B 54 1 v' (k + 1) (Vs ++ [.int .u32 ((dg X k : Nat) : Int)]) ∧ wa.grownBy w' v.ownBlock := by
    have hgr : ∀ (o : Obj) (row : Option Nat), wa.grownBy (wa.drew.alloc o) row := fun o row => ⟨rfl, rfl, rfl, by simp, fun k hk _ => Below.heap_alloc wa.drew _ k hk⟩
    have hmk : ∀ (old : Nat), (wa.drew.alloc (.cells (Vs.toArray ++ [Value.int .u32 ((dg X k : Nat) : Int)].toArray ++ Builtin.zeroCells (Value.int .u32 0).cells (grownCap wa (k + 1) old 54 - (k + 1))) 54)).ownsRow B 54 1 (.slice (some ⟨wa.heap.size, 0, none⟩) (k + 1) (grownCap wa (k + 1) old 54)) (k + 1) (Vs ++ [.int .u32 ((dg X k : Nat) : Int)]) := fun old => by
      have hge := grownCap_ge wa (k + 1) old 54
      have hcm := grownCap_le_maxLen wa (k + 1) old 54 (by unfold maxLen; omega)
      generalize grownCap wa (k + 1) old 54 = cc at *
      refine ⟨by simp [hll], .inr ⟨wa.heap.size, cc, _, rfl, by omega, heap_new2 _ _, hge, hcm, ?_, ?_⟩⟩
      · simp only [Array.size_append, List.size_toArray, size_zeroCells]
        simp [Value.cells]; omega
      · have e2 : (k + 1) * 1 = (Vs ++ [Value.int .u32 ((dg X k : Nat) : Int)]).length := by simp [hll]
        rw [e2]
        simp only [Array.toList_append, List.append_assoc]
        rw [← List.append_assoc]
        exact List.take_left
    rcases howna.2 with ⟨rfl, rfl⟩ | ⟨g, cap, cur, rfl, hb, hg, h1, h2, h3, h4⟩
    · obtain rfl : Vs = [] := List.length_eq_zero_iff.1 hll
      have hrun := fun ty => run_append_nil2 (P := Try.prog) wa 22 22 ty 54 i0 (.int .u32 0) Try.underlying22 Try.underlying22 hi hz0 ⟨w.heap.size, 0, none⟩ 1 1 [.int .u32 ((dg X 0 : Nat) : Int)] (by rw [hz1]; rfl) hcell (by omega) (by omega) (by rw [hz2]; omega)
      have := hmk 0
      have e0 : ([] : List Value).toArray ++ [Value.int .u32 ((dg X 0 : Nat) : Int)].toArray = [Value.int .u32 ((dg X 0 : Nat) : Int)].toArray := by simp
      rw [e0] at this
      exact ⟨_, _, hrun, this, hgr _ _⟩
    · by_cases hroom : k < cap
      · have hrun := fun ty => run_append_room (P := Try.prog) wa 22 ty 54 i0 Try.underlying22 hi g k cap cur hg ⟨w.heap.size, 0, none⟩ 1 1 [.int .u32 ((dg X k : Nat) : Int)] (by rw [hz1]; rfl) hcell (by simp [Value.oneCell']) (by omega) (by rw [hz1]; simp; omega)
        refine ⟨_, _, hrun, ⟨by simp [hll], .inr ⟨g, cap, _, rfl, hb, setRow_heap _ g cur _ _ _ hg, by omega, h2, ?_, ?_⟩⟩, ?_⟩
        · rw [hz1]; simp; omega
        · rw [hz1, Nat.mul_one, Nat.mul_one]
          rw [Nat.mul_one] at h4
          have hl2 : (cur.toList.take k).length = k := by simp; omega
          rw [List.take_append_of_le_length (by simp; omega), List.take_of_length_le (by simp; omega), h4]
        · refine ⟨rfl, rfl, rfl, by simp, fun k hk hne => ?_⟩
          exact setRow_other _ g k _ (fun e => hne (by rw [e]; rfl))
      · have hrun := fun ty => run_append_grow (P := Try.prog) wa 22 ty 54 i0 (.int .u32 0) Try.underlying22 hi hz0 ⟨g, 0, none⟩ k cap Vs (by rw [hll, hz1, Nat.mul_one])
          (fun j u hj => World.ownsRow.cells howna rfl j u hj)
          ⟨w.heap.size, 0, none⟩ 1 1 [.int .u32 ((dg X k : Nat) : Int)] (by rw [hz1]; rfl) hcell (by omega) (by omega)
          (growslice_fits (by omega) (by rw [hz2]; omega))
        exact ⟨_, _, hrun, hmk cap, hgr _ _⟩
  obtain ⟨v', w', hrun, ho, hg⟩ := key
  obtain ⟨a', c', rfl⟩ : ∃ a' c', v' = .slice a' (k + 1) c' := by
    rcases ho.2 with ⟨rfl, h⟩ | ⟨g, cap, cur, rfl, _⟩
    · omega
    · exact ⟨_, _, rfl⟩
  have hgw : w.grownBy w' v.ownBlock := ⟨hg.os.trans hga.os, hg.tape.trans hga.tape, hg.output.trans hga.output, Nat.le_trans hga.size hg.size, fun k hk hne => (hg.block k (by omega) hne).trans (hga.block k hk (by simp))⟩
  exact ⟨a', c', w', hrun, by unfold OwL; rw [hls]; exact ho, hgw⟩
theorem On.grownL {B : Nat} {W w w' : World} {v : Value} {k : Nat} {X : Int} (h : On W w) (hB : W.heap.size ≤ B) (ho : OwL B w v k X) (g : w.grownBy w' v.ownBlock) : On W w' :=
  Below.grown h g (Below.size h) fun j hj => by have := (World.ownsRow.lt ho j hj).1; omega

set_option maxHeartbeats 1000000 in
theorem rsum_any (va vb : Value) (x y : Nat) (w : World) (ha : Nv w va x) (hb : Nv w vb y) (hx : nl x ≤ 100000) (hy : nl y ≤ 100000) :
    Calls Try.prog 62 #[va, vb] w fun e w' => (∃ v, e = .returned v ∧ Nf w.heap.size w' v (x + y)) ∧ On w w' := by
  have HA := Lib.hid ha; have HB := Lib.hid hb
  obtain ⟨oa, ca, rfl, -, -, -⟩ := ha
  obtain ⟨ob, cb, rfl, -, -, -⟩ := hb
  obtain ⟨M, hM, hMe⟩ : ∃ M : Nat, M ≤ 100000 ∧ max (((nl x : Nat) : Int)) ((nl y : Nat) : Int) = (M : Int) := ⟨max (nl x) (nl y), by omega, by omega⟩
  have HS : Hid (x + y < 4294967296 ^ (M + 1)) := by
    have h := max_bound (x := x) (y := y) (m := M) (by omega) (by omega)
    unfold Hid; rwa [Nat.one_mul] at h
  have HC := Lib.hid (upC_le x y 1); have HCA := Lib.hid (up_carry x y 1); have HDG := Lib.hid (up_digit x y 1)
  have HC0 := Lib.hid (upC_zero x y 1)
  clear hx hy
  generalize nl x = m at *
  generalize nl y = m' at *
  go_enter Try.func62, Try.ntmps62
  go_wp2_with fail
  go_loopw [5, 6, 7] (fun vo vc vi wr => ∃ (k : Nat) (ao : Option Addr) (co : Nat), k ≤ M + 1 ∧ vi = .int .i64 (k : Int) ∧ vc = .int .u64 ((upC x y 1 k : Nat) : Int) ∧ vo = .slice ao k co ∧ Hid (On w wr ∧ OwL w.heap.size wr (.slice ao k co) k ((x + y : Nat) : Int))) (fun _ _ vi _ => M + 1 - (intOf vi).toNat)
  case atStart => exact ⟨0, none, 0, Nat.zero_le _, rfl, by rw [HC0.out]; rfl, rfl, On.refl w, OwL.nil _ _ _⟩
  case round =>
    rename World => wr
    obtain ⟨k, ao, co, hk, rfl, rfl, rfl, HI⟩ := hrel
    by_cases hlt : k < M + 1
    · have hcb := HC.out k
      have HL1 := Lib.hid (rlimb_any (.slice oa m ca) x k wr (HA.out.on HI.out.1) (by omega))
      have HL2 := Lib.hid (rlimb_any (.slice ob m' cb) y k wr (HB.out.on HI.out.1) (by omega))
      have hd1 := dg_lt (x : Int) k; have hd2 := dg_lt (y : Int) k
      have hca := HCA.out k; have hdg := HDG.out k
      rw [Nat.one_mul, Nat.one_mul] at hdg
      rw [Nat.one_mul] at hca
      obtain ⟨s, hs⟩ : ∃ s, s = upC x y 1 k + dg (x : Int) k + dg (y : Int) k := ⟨_, rfl⟩
      rw [← hs] at hca hdg
      have hsb : s ≤ 8589934592 := by omega
      have hse : ((dg (x : Int) k : Nat) : Int) + ((dg (y : Int) k : Nat) : Int) + ((upC x y 1 k : Nat) : Int) = (s : Int) := by omega
      obtain ⟨a2, c2, w3, hrun, ho, hg⟩ := HI.out.2.append HI.out.1.size (by omega) ((s : Int) % 4294967296) (by rw [hdg]; omega)
      have HRUN := Lib.hid hrun
      have HN : Hid (On w w3 ∧ OwL w.heap.size w3 (.slice a2 (k + 1) c2) (k + 1) ((x + y : Nat) : Int)) := ⟨HI.out.1.grownL (Nat.le_refl _) HI.out.2 hg, ho⟩
      have HCN : Hid (upC x y 1 (k + 1) = s / 4294967296) := hca
      clear hrun ho hg hca hdg hs
      generalize dg (x : Int) k = d1 at *
      generalize dg (y : Int) k = d2 at *
      generalize upC x y 1 k = cc at *
      have hw1 : IntKind.u64.wrap ((d1 : Int) + (d2 : Int)) = (d1 : Int) + (d2 : Int) := IntWalk.u64_in _ (by omega)
      have hw2 : IntKind.u64.wrap (s : Int) = (s : Int) := IntWalk.u64_in _ (by omega)
      have hw3 : IntKind.u32.wrap ((s : Int) % 4294967296) = (s : Int) % 4294967296 := IntWalk.u32_in _ (by omega)
      have hkm : (k : Int) < (M : Int) + 1 := by omega
      go_wp2_with (first
        | (go_at_call 87; (with_reducible refine HL1.out.mono ?_); rintro e w' ⟨rfl, rfl⟩)
        | (go_at_call 87; (with_reducible refine HL2.out.mono ?_); rintro e w' ⟨rfl, rfl⟩)
        | (at_builtin; refine wp_append2 rfl (.tmp 28) (.tmp 32) _ _ rfl _ _ _ rfl rfl HRUN.out ?_))
      go_roundw
      case rel => exact ⟨k + 1, a2, c2, by omega, by go_num, by rw [HCN.out]; go_num, rfl, HN.out⟩
      case measure => simp [intOf]; omega
    · obtain rfl : k = M + 1 := by omega
      have HV := Lib.hid HI.out.2.lv
      have HO := Lib.hid HI.out.1
      have hkm : ¬ (((M + 1 : Nat) : Int) < (M : Int) + 1) := by omega
      clear HI
      go_wp2_with fail
      refine (rtrim_any _ _ (x + y) wr HV.out.1 HV.out.2 HS.out (by omega)).mono ?_
      rintro e w6 ⟨⟨u, rfl, hu⟩, hO6⟩
      have HU := Lib.hid (hu.mono HO.out.size); have HO6 := Lib.hid (HO.out.trans hO6)
      clear hu hO6
      go_wp2
      go_ret
      exact ⟨⟨_, rfl, HU.out⟩, HO6.out⟩
end Go.Proofs.Ytdgmlmcllkgemaa
