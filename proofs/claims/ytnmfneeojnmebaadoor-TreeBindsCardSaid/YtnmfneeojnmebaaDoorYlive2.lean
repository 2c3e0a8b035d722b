/- The laws' lives; a list of digests that is grown by append. -/
import Derived.Test.YtnmfneeojnmebaaDoorYpaths
namespace Go.Proofs.YtnmfneeojnmebaaDoor
open Go.RowKit
set_option linter.unusedVariables false

theorem dr_lit (l : List Dg) (w : World) (hT : Tab w) (hU : ∀ i, i < l.length → SmD (l.getD i zD)) (hl : l.length ≤ 1000000) (cs : Array Value) (hcs : cs = (dcells l).toArray) : DR (w.alloc (.cells cs 36)) (.slice (some ⟨w.heap.size, 0, none⟩) l.length l.length) l ∧ On w (w.alloc (.cells cs 36)) := by
  subst hcs
  refine ⟨?_, (On.refl hT).alloc _⟩
  have h := db_alloc w l [] 36 _ rfl
  have h2 : DB w.heap.size (w.alloc (.cells (dcells l).toArray 36)) l := by simpa using h
  exact h2.reads hU (by omega) _
theorem sm_all {l : List Dg} {f : Int} (h : okA f l = true) : ∀ i, i < l.length → SmD (l.getD i zD) := fun i hi => okD_sm (okA_get h i hi)
def zz : List Dg := [zD, zD]
def d19 : Dg := (19, 58)
theorem lvl1 : lvl 0 zz 1 = [d19] := by decide +kernel
theorem chk1 : checkB 0 [d19] 1 zD [zD] = true := by decide +kernel
set_option maxHeartbeats 2000000 in
set_option maxRecDepth 100000 in
theorem lives_tree (w : World) (hT : TZ w) : Calls Tryd.prog 21 #[] w fun e w' => e = .returned (.bool true) ∧ On w w' := by
  have HT := Lib.hid hT
  obtain ⟨u, hu⟩ : ∃ u, u = w.alloc (.cells #[.int .u64 0, .int .u64 0] 36) := ⟨_, rfl⟩
  have HU := Lib.hid hu
  have HO : Hid (On w u) := by refine Lib.hid ?_; rw [hu]; exact (On.refl hT.1).alloc _
  have HB : Hid (Blk w.heap.size u [0, 0]) := by refine Lib.hid ?_; rw [hu]; exact blk_new2 w 0 0 _
  obtain ⟨z0, z1⟩ := HB.out.cells2
  have hz0 : u.cell? ⟨w.heap.size, 0, none⟩ = some (.int .u64 0) := z0
  have hz1 : u.cell? ⟨w.heap.size, 1, none⟩ = some (.int .u64 0) := z1
  clear z0 z1 hu hT
  go_enter Tryd.func21, Tryd.ntmps21
  go_upto_region 2 with fail
  rw [← HU.out]
  go_wp2_with fail
  obtain ⟨hD, hO1⟩ := dr_lit zz u HO.out.tab (sm_all (f := 0) (by decide +kernel)) (by decide) #[.int .u64 0, .int .u64 0, .int .u64 0, .int .u64 0] rfl
  have HO1 := Lib.hid (HO.out.trans hO1)
  have HB1 := Lib.hid (HB.out.on hO1)
  have HBD : Hid (Calls Tryd.prog 13 #[.int .i64 0, .slice (some ⟨u.heap.size, 0, none⟩) 2 2, .int .i64 0] (u.alloc (.cells #[.int .u64 0, .int .u64 0, .int .u64 0, .int .u64 0] 36)) fun e w' =>
      (∃ v', e = .returned (.tuple #[.agg #[.int .i64 0, .int .i64 1, .int .i64 0, v'], .int .i64 0]) ∧ TM (u.alloc (.cells #[.int .u64 0, .int .u64 0, .int .u64 0, .int .u64 0] 36)).heap.size w' v' 2 (lvl 0 zz)) ∧ On (u.alloc (.cells #[.int .u64 0, .int .u64 0, .int .u64 0, .int .u64 0] 36)) w') :=
    build_yes 0 zz _ 1 0 _ (HT.out.on HO1.out) (by decide) (by omega) (by decide) (by omega) (by decide +kernel) hD
  have HGD : Hid (Good 0 1 0 2 (lvl 0 zz)) := good_lvl (by decide) (by omega) (by omega) (by decide) (by decide +kernel)
  clear hD hO1 HB HO hz0 hz1
  generalize hu1 : u.alloc (.cells #[.int .u64 0, .int .u64 0, .int .u64 0, .int .u64 0] 36) = u1 at *
  clear hu1
  with_reducible refine HBD.out.mono ?_
  rintro e w1 ⟨⟨v, rfl, hTM⟩, hO1⟩
  have hTR := hTM.tr (by omega) (fun j hj => ⟨fun t => by
      rcases Nat.lt_or_ge t ((lvl 0 zz j).length) with h | h
      · exact okD_sm (okA_get (HGD.out.ok j hj) t h)
      · rw [List.getD_eq_getElem?_getD, List.getElem?_eq_none h]; exact zD_sm, by rw [HGD.out.len j hj]; exact Nat.le_trans (pow18 (by omega)) (by omega)⟩)
  obtain ⟨g, cg, rfl, -⟩ := hTM
  have HB2 := Lib.hid (HB1.out.on hO1)
  have HO2 := Lib.hid (HO1.out.trans hO1)
  have HTR := Lib.hid hTR
  clear hTR hO1 HBD HB1 HO1
  go_wp2_with fail
  have hA : On w1 (w1.alloc (.cells #[.int .i64 0, .int .i64 1, .int .i64 0, .slice (some ⟨g, 0, none⟩) 2 cg] 26)) := (On.refl HO2.out.tab).alloc _
  have HTB : Hid (TBox w1.heap.size (w1.alloc (.cells #[.int .i64 0, .int .i64 1, .int .i64 0, .slice (some ⟨g, 0, none⟩) 2 cg] 26)) 0 1 0 (.slice (some ⟨g, 0, none⟩) 2 cg)) := TBox.new w1 _ _ _ _
  have HB3 := Lib.hid (HB2.out.on hA)
  have HO3 := Lib.hid (HO2.out.trans hA)
  have HTR3 := Lib.hid (HTR.out.on hA)
  generalize hw2 : w1.alloc (.cells #[.int .i64 0, .int .i64 1, .int .i64 0, .slice (some ⟨g, 0, none⟩) 2 cg] 26) = w2 at *
  clear hw2 hA HB2 HO2 HTR
  have HPA : Hid (Calls Tryd.prog 23 #[.agg #[.int .i64 0, .int .i64 1, .int .i64 0, .slice (some ⟨g, 0, none⟩) 2 cg], .int .i64 1] w2 fun e w' => (∃ P, e = .returned (.tuple #[.slice (some ⟨P, 0, none⟩) 1 1, .int .i64 0]) ∧ w2.heap.size ≤ P ∧ DB P w' [zD]) ∧ On w2 w') := by
    have h := path_yes 0 1 0 2 (lvl 0 zz) _ 1 w2 HO3.out.tab HGD.out HTR3.out (by decide)
    rw [show pathF (lvl 0 zz) 1 (1 - 0) = [zD] from by decide +kernel] at h
    exact h
  with_reducible refine HPA.out.mono ?_
  rintro e w3 ⟨⟨P, rfl, hP, hD⟩, hO⟩
  have HTB4 := Lib.hid (HTB.out.on hO)
  have HB4 := Lib.hid (HB3.out.on hO)
  have HO4 := Lib.hid (HO3.out.trans hO)
  have HTR4 := Lib.hid (HTR3.out.on hO)
  have HD4 : Hid (DR w3 (.slice (some ⟨P, 0, none⟩) 1 1) [zD]) := hD.reads (sm_all (f := 0) (by decide +kernel)) (by decide) 1
  clear hO hD hP HPA HTB HB3 HO3 HTR3
  obtain ⟨t0, t1, t2, t3⟩ := HTB4.out.cells
  go_wp2_with fail
  have HCA : Hid (Calls Tryd.prog 19 #[.agg #[.int .i64 0, .int .i64 1, .int .i64 0, .slice (some ⟨g, 0, none⟩) 2 cg]] w3 fun e w' => (∃ B cc, e = .returned (.slice (some ⟨B, 0, none⟩) 1 cc) ∧ w3.heap.size ≤ B ∧ DB B w' [d19]) ∧ On w3 w') := by
    have h := cap_yes 0 1 0 2 (lvl 0 zz) _ w3 HO4.out.tab HGD.out HTR4.out
    rw [show (1 - 0 : Nat) = 1 from rfl, lvl1] at h
    exact h
  with_reducible refine HCA.out.mono ?_
  rintro e w4 ⟨⟨B, cc, rfl, hP, hD⟩, hO⟩
  have HB5 := Lib.hid (HB4.out.on hO)
  have HO5 := Lib.hid (HO4.out.trans hO)
  have HD5 := Lib.hid (HD4.out.on hO)
  have HC5 : Hid (DR w4 (.slice (some ⟨B, 0, none⟩) 1 cc) [d19]) := hD.reads (sm_all (f := 0) (by decide +kernel)) (by decide) cc
  clear hO hD hP HCA HTB4 HB4 HO4 HTR4 HD4 t0 t1 t2 t3
  obtain ⟨hL, hA⟩ := dr_lit [d19] w4 HO5.out.tab (sm_all (f := 0) (by decide +kernel)) (by decide) #[.int .u64 19, .int .u64 58] rfl
  have HEQ : Hid (Calls Tryd.prog 18 #[.slice (some ⟨B, 0, none⟩) 1 cc, .slice (some ⟨w4.heap.size, 0, none⟩) 1 1] (w4.alloc (.cells #[.int .u64 19, .int .u64 58] 36)) fun e w' => e = .returned (.bool true) ∧ On (w4.alloc (.cells #[.int .u64 19, .int .u64 58] 36)) w') := by
    have h := requal_any [d19] [d19] _ _ _ (HO5.out.trans hA).tab (HC5.out.on hA) hL
    exact h
  have HA := Lib.hid hA
  clear hL hA
  go_wp2_with fail
  with_reducible refine HEQ.out.mono ?_
  rintro e w5 ⟨rfl, hO⟩
  have HB6 := Lib.hid ((HB5.out.on HA.out).on hO)
  have HO6 := Lib.hid ((HO5.out.trans HA.out).trans hO)
  have HD6 := Lib.hid ((HD5.out.on HA.out).on hO)
  clear hO HEQ HA HB5 HO5 HD5 HC5
  obtain ⟨z0, z1⟩ := HB6.out.cells2
  have hz0 : w5.cell? ⟨w.heap.size, 0, none⟩ = some (.int .u64 0) := z0
  have hz1 : w5.cell? ⟨w.heap.size, 1, none⟩ = some (.int .u64 0) := z1
  clear z0 z1
  obtain ⟨hL, hA⟩ := dr_lit [zD] w5 HO6.out.tab (sm_all (f := 0) (by decide +kernel)) (by decide) #[.int .u64 0, .int .u64 0] rfl
  have HEQ : Hid (Calls Tryd.prog 18 #[.slice (some ⟨P, 0, none⟩) 1 1, .slice (some ⟨w5.heap.size, 0, none⟩) 1 1] (w5.alloc (.cells #[.int .u64 0, .int .u64 0] 36)) fun e w' => e = .returned (.bool true) ∧ On (w5.alloc (.cells #[.int .u64 0, .int .u64 0] 36)) w') := by
    have h := requal_any [zD] [zD] _ _ _ (HO6.out.trans hA).tab (HD6.out.on hA) hL
    exact h
  have HA := Lib.hid hA
  clear hL hA
  go_wp2_with fail
  with_reducible refine HEQ.out.mono ?_
  rintro e w6 ⟨rfl, hO⟩
  have HB7 := Lib.hid ((HB6.out.on HA.out).on hO)
  have HO7 := Lib.hid ((HO6.out.trans HA.out).trans hO)
  have HD7 := Lib.hid ((HD6.out.on HA.out).on hO)
  clear hO HEQ HA HB6 HO6 HD6 hz0 hz1
  obtain ⟨hL, hA⟩ := dr_lit [d19] w6 HO7.out.tab (sm_all (f := 0) (by decide +kernel)) (by decide) #[.int .u64 19, .int .u64 58] rfl
  obtain ⟨z0, z1⟩ := (HB7.out.on hA).cells2
  have hz0 : (w6.alloc (.cells #[.int .u64 19, .int .u64 58] 36)).cell? ⟨w.heap.size, 0, none⟩ = some (.int .u64 0) := z0
  have hz1 : (w6.alloc (.cells #[.int .u64 19, .int .u64 58] 36)).cell? ⟨w.heap.size, 1, none⟩ = some (.int .u64 0) := z1
  have HCK : Hid (Calls Tryd.prog 29 #[.int .i64 0, .slice (some ⟨w6.heap.size, 0, none⟩) 1 1, .int .i64 1, .agg #[.int .u64 0, .int .u64 0], .slice (some ⟨P, 0, none⟩) 1 1] (w6.alloc (.cells #[.int .u64 19, .int .u64 58] 36)) fun e w' => e = .returned (.bool true) ∧ On (w6.alloc (.cells #[.int .u64 19, .int .u64 58] 36)) w') := by
    have h := check_any 0 [d19] _ 1 zD [zD] _ _ (HT.out.on (HO7.out.trans hA)) hL zD_sm (HD7.out.on hA) (by omega)
    rw [chk1] at h
    exact h
  have HA := Lib.hid hA
  clear hL hA z0 z1
  go_wp2_with fail
  with_reducible refine HCK.out.mono ?_
  rintro e w7 ⟨rfl, hO⟩
  have HO8 := Lib.hid ((HO7.out.trans HA.out).trans hO)
  clear hO
  go_wp2
  go_ret
  exact ⟨rfl, HO8.out⟩
end Go.Proofs.YtnmfneeojnmebaaDoor

namespace Go.Proofs.YtnmfneeojnmebaaDoor
open Go.RowKit
set_option linter.unusedVariables false

/-- v is a list of digests that was grown in memory from B on. -/
def OD (B : Nat) (w : World) (v : Value) (l : List Dg) : Prop := w.ownsRow B 36 2 v l.length (dcells l)
theorem OD.nil (B : Nat) (w : World) : OD B w (.slice none 0 0) [] := World.ownsRow_nil w B 36 2
theorem OD.gb {B : Nat} {X Y : World} {v : Value} {l : List Dg} (h : OD B X v l) (k : On X Y) : OD B Y v l := World.ownsRow.kept h k.gb (by
  rcases h.2 with ⟨rfl, _⟩ | ⟨g, cap, cur, rfl, _⟩
  · exact .inl rfl
  · exact .inr (by simp [Value.ownBlock]))
theorem OD.shape {B : Nat} {w : World} {v : Value} {l : List Dg} (h : OD B w v l) : ∃ a c, v = .slice a l.length c := by
  rcases h.2 with ⟨rfl, h0⟩ | ⟨g, cap, cur, rfl, _⟩
  · exact ⟨none, 0, by rw [h0]⟩
  · exact ⟨_, _, rfl⟩
theorem OD.db {B : Nat} {w : World} {v : Value} {l : List Dg} (h : OD B w v l) (hl : 0 < l.length) : ∃ g c, v = .slice (some ⟨g, 0, none⟩) l.length c ∧ B ≤ g ∧ DB g w l := by
  rcases h.2 with ⟨rfl, h0⟩ | ⟨g, cap, cur, rfl, hb, hg, h1, h2, h3, h4⟩
  · omega
  · refine ⟨g, cap, rfl, hb, (Array.getElem?_eq_some_iff.1 hg).1, fun i hi => ?_, fun i => by simp [World.frozen?, hg]⟩
    have hc : ∀ t, t < l.length * 2 → w.cell? ⟨g, t, none⟩ = (dcells l)[t]? := fun t ht => by
      rw [← h4, List.getElem?_take, if_pos ht]
      simp [World.cell?, hg]
    obtain ⟨e1, e2⟩ := dcells_get l i hi
    exact ⟨(hc _ (by omega)).trans e1, (hc _ (by omega)).trans e2⟩
theorem append_dg {B : Nat} {wa : World} {v : Value} {l : List Dg} (x : Dg) (C : Nat) (hx0 : wa.cell? ⟨C, 0, none⟩ = some (.int .u64 ((x.1 : Nat) : Int))) (hx1 : wa.cell? ⟨C, 1, none⟩ = some (.int .u64 ((x.2 : Nat) : Int))) (howna : OD B wa v l) (hB : B ≤ wa.heap.size) (hm : l.length ≤ 1000000) :
    ∃ v' w', (∀ ty, (Builtin.append_ #[22, 22] ty #[v, .slice (some ⟨C, 0, none⟩) 1 1]).run Tryd.prog wa = .ok v' w') ∧ OD B w' v' (l ++ [x]) ∧ wa.grownBy w' v.ownBlock := by
  obtain ⟨i0, hi, hz0, hz1, hz2⟩ := info_parts info_dg
  have hcell : ∀ j u, [Value.int .u64 ((x.1 : Nat) : Int), .int .u64 ((x.2 : Nat) : Int)][j]? = some u → wa.cell? ((⟨C, 0, none⟩ : Addr).add j) = some u := fun j u hj => by
    rw [add_plain, Nat.zero_add]
    match j, hj with
    | 0, hj => simp at hj; subst hj; exact hx0
    | 1, hj => simp at hj; subst hj; exact hx1
    | j + 2, hj => simp at hj
  have hdl := dcells_len l
  have hda : dcells (l ++ [x]) = dcells l ++ [Value.int .u64 ((x.1 : Nat) : Int), .int .u64 ((x.2 : Nat) : Int)] := dcells_append l [x]
  have hgr : ∀ (o : Obj) (row : Option Nat), wa.grownBy (wa.drew.alloc o) row := fun o row => ⟨rfl, rfl, rfl, by simp, fun k hk _ => Below.heap_alloc wa.drew _ k hk⟩
  have hmk : ∀ (old : Nat), OD B (wa.drew.alloc (.cells ((dcells l).toArray ++ [Value.int .u64 ((x.1 : Nat) : Int), .int .u64 ((x.2 : Nat) : Int)].toArray ++ Builtin.zeroCells (Value.agg #[.int .u64 0, .int .u64 0]).cells (grownCap wa (l.length + 1) old 36 - (l.length + 1))) 36)) (.slice (some ⟨wa.heap.size, 0, none⟩) (l.length + 1) (grownCap wa (l.length + 1) old 36)) (l ++ [x]) := fun old => by
    have hge := grownCap_ge wa (l.length + 1) old 36
    have hcm := grownCap_le_maxLen wa (l.length + 1) old 36 (by unfold maxLen; omega)
    generalize grownCap wa (l.length + 1) old 36 = cc at *
    unfold OD
    rw [hda]
    have hll : (l ++ [x]).length = l.length + 1 := by simp
    rw [hll]
    refine ⟨by simp [hdl]; omega, .inr ⟨wa.heap.size, cc, _, rfl, by omega, World.alloc_heap_new _ _, hge, hcm, ?_, ?_⟩⟩
    · simp only [Array.size_append, List.size_toArray, size_zeroCells]
      simp [Value.cells, hdl]; omega
    · have e2 : (l.length + 1) * 2 = (dcells l ++ [Value.int .u64 ((x.1 : Nat) : Int), .int .u64 ((x.2 : Nat) : Int)]).length := by simp [hdl]; omega
      rw [e2]
      simp only [Array.toList_append, List.append_assoc]
      rw [← List.append_assoc]
      exact List.take_left
  rcases howna.2 with ⟨rfl, h0⟩ | ⟨g, cap, cur, rfl, hb, hg, h1, h2, h3, h4⟩
  · obtain rfl : l = [] := List.length_eq_zero_iff.1 h0
    have hrun := fun ty => run_append_nil_z (P := Tryd.prog) wa 22 22 ty 36 i0 (.agg #[.int .u64 0, .int .u64 0]) Tryd.underlying22 Tryd.underlying22 hi hz0 ⟨C, 0, none⟩ 1 1 [.int .u64 ((x.1 : Nat) : Int), .int .u64 ((x.2 : Nat) : Int)] (by rw [hz1]; rfl) hcell (by omega) (by omega) (by rw [hz2]; omega)
    have := hmk 0
    simp only [dcells] at this
    have e0 : ([] : List Value).toArray ++ [Value.int .u64 ((x.1 : Nat) : Int), .int .u64 ((x.2 : Nat) : Int)].toArray = [Value.int .u64 ((x.1 : Nat) : Int), .int .u64 ((x.2 : Nat) : Int)].toArray := by simp
    rw [e0] at this
    exact ⟨_, _, hrun, this, hgr _ _⟩
  · by_cases hroom : l.length < cap
    · have hrun := fun ty => run_append_room (P := Tryd.prog) wa 22 ty 36 i0 Tryd.underlying22 hi g l.length cap cur hg ⟨C, 0, none⟩ 1 1 [.int .u64 ((x.1 : Nat) : Int), .int .u64 ((x.2 : Nat) : Int)] (by rw [hz1]; rfl) hcell (by simp [Value.oneCell']) (by omega) (by rw [hz1]; simp; omega)
      refine ⟨_, _, hrun, ?_, ?_⟩
      · unfold OD
        rw [hda]
        have hll : (l ++ [x]).length = l.length + 1 := by simp
        rw [hll]
        refine ⟨by simp [hdl]; omega, .inr ⟨g, cap, _, rfl, hb, setRow_heap _ g cur _ _ _ hg, by omega, h2, ?_, ?_⟩⟩
        · rw [hz1]; simp; omega
        · rw [hz1]
          have hl2 : (cur.toList.take (l.length * 2)).length = l.length * 2 := by simp; omega
          rw [List.take_append_of_le_length (by simp; omega), List.take_of_length_le (by simp; omega), h4]
      · refine ⟨rfl, rfl, rfl, by simp, fun k hk hne => ?_⟩
        exact setRow_other _ g k _ (fun e => hne (by rw [e]; rfl))
    · have hrun := fun ty => run_append_grow (P := Tryd.prog) wa 22 ty 36 i0 (.agg #[.int .u64 0, .int .u64 0]) Tryd.underlying22 hi hz0 ⟨g, 0, none⟩ l.length cap (dcells l) (by rw [hz1]; exact hdl)
        (fun j u hj => World.ownsRow.cells howna rfl j u hj)
        ⟨C, 0, none⟩ 1 1 [.int .u64 ((x.1 : Nat) : Int), .int .u64 ((x.2 : Nat) : Int)] (by rw [hz1]; rfl) hcell (by omega) (by omega)
        (growslice_fits (by omega) (by rw [hz2]; omega))
      exact ⟨_, _, hrun, hmk cap, hgr _ _⟩
end Go.Proofs.YtnmfneeojnmebaaDoor
