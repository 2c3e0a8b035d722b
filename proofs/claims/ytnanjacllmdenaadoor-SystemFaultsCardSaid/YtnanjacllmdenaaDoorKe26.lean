/- The document's Permuted: what the call returns. -/
import Derived.Test.YtnanjacllmdenaaDoorKe25
import Derived.Test.YtnanjacllmdenaaDoorKe24
import Derived.Test.YtnanjacllmdenaaDoorKe04
set_option linter.unusedSimpArgs false
set_option linter.unusedVariables false
/- The document's Permuted: what the call returns. -/
namespace Go.Proofs.YtnanjacllmdenaaDoor
open Go.RowKit Go.Lib
set_option linter.unusedVariables false

/-- A row of marks. -/
def BBz (B m : Nat) (w : World) (K : Nat → Bool) : Prop := B < w.heap.size ∧ (∀ j, j < m → w.cell? ⟨B, j, none⟩ = some (.bool (K j))) ∧ ∀ j, w.frozen? ⟨B, j, none⟩ = false
theorem BBz.on {B m : Nat} {w w' : World} {K : Nat → Bool} (h : BBz B m w K) (k : On w w') : BBz B m w' K :=
  ⟨Nat.lt_of_lt_of_le h.1 k.size, fun j hj => cell_on k (h.2.1 j hj), fun j => by have := h.2.2 j; unfold World.frozen? at this ⊢; rw [k.2.block B h.1]; exact this⟩
theorem BBz.set {B m : Nat} {w : World} {K : Nat → Bool} (h : BBz B m w K) (i : Nat) (b : Bool) (hi : i < m) : BBz B m (w.setCell ⟨B, i, none⟩ (.bool b)) (fun j => if j = i then b else K j) := by
  refine ⟨by simpa [World.setCell] using h.1, fun j hj => ?_, fun j => by have := h.2.2 j; simpa using this⟩
  show _ = some (Value.bool (if j = i then b else K j))
  by_cases e : j = i
  · subst e; rw [if_pos rfl]; exact World.cell?_setCell_same (h := h.2.1 j hj) ..
  · rw [if_neg e, World.cell?_setCell_other (h := fun e2 => by have := congrArg Addr.off e2; simp at this; omega) ..]; exact h.2.1 j hj
theorem BBz.eq {B m : Nat} {w : World} {K L : Nat → Bool} (h : BBz B m w K) (e : ∀ j, j < m → L j = K j) : BBz B m w L := ⟨h.1, fun j hj => by rw [e j hj]; exact h.2.1 j hj, h.2.2⟩
theorem info_boolz : (Tryd.prog.info? 4).map (fun i => (i.zero, i.size, i.bytes)) = some (some (.bool false), 1, 1) := by kernel_rfl
set_option maxRecDepth 10000 in
theorem make_boolz (n : Nat) (hn : n ≤ 1000000) (w : World) :
    (Instr.makeSlice 139 (.int .i64 (n : Int)) (.int .i64 (n : Int))).run Tryd.prog w = .ok (.slice (some ⟨w.heap.size, 0, none⟩) n n) (w.alloc (.cells (madeCells #[.bool false] n) 4)) := by
  obtain ⟨i0, hi, hz0, hz1, hz2⟩ := info_parts info_boolz
  have h := run_make (P := Tryd.prog) w 139 4 i0 (.bool false) Tryd.underlying139 hi hz0 .i64 .i64 (n : Int) (n : Int) (by omega) (by omega) (by rw [hz2]; omega) (by omega)
  rw [hz1] at h
  simpa [Value.cells] using h
theorem bbz_made (w : World) (m : Nat) : BBz w.heap.size m (w.alloc (.cells (madeCells #[.bool false] m) 4)) (fun j => (List.replicate m false).getD j true) := by
  refine ⟨by simp, fun j hj => ?_, fun j => World.frozen?_alloc_new ..⟩
  rw [World.cell?_alloc_new]
  have hl : (madeCells #[Value.bool false] m).toList = List.replicate m (Value.bool false) := toList_madeCells_one _ _
  have : (madeCells #[Value.bool false] m).toList[j]? = some (Value.bool false) := by rw [hl]; simp [hj]
  have e : (List.replicate m false).getD j true = false := by rw [List.getD_eq_getElem?_getD]; simp [hj]
  show _ = some (Value.bool ((List.replicate m false).getD j true))
  rw [e]
  simpa using this
theorem set_getDz (U : List Bool) (k j m : Nat) (hl : U.length = m) (hj : j < m) (hk : k < m) : (U.set k true).getD j true = if j = k then true else U.getD j true := by
  rw [List.getD_eq_getElem?_getD, List.getElem?_set]
  by_cases e : j = k
  · subst e; simp [hl, hj]
  · rw [if_neg e, if_neg (fun h => e h.symm), List.getD_eq_getElem?_getD]
set_option maxHeartbeats 2000000 in
set_option maxRecDepth 100000 in
theorem rpermuted_any (A B : List (List Nat)) (va vb : Value) (w : World) (hT : Tab w) (hA : ColL w va A) (hB : ColL w vb B) (hm : B.length ≤ 1000000) :
    Calls Tryd.prog 49 #[va, vb] w fun e w' => (∃ b : Bool, e = .returned (.bool b) ∧ (b = true ↔ A.Perm B)) ∧ On w w' := by
  obtain ⟨aa, ac, rfl⟩ := hA.shape
  obtain ⟨ba, bc, rfl⟩ := hB.shape
  by_cases hlen : A.length = B.length
  rotate_left
  · have hne : (((A.length : Nat) : Int) != ((B.length : Nat) : Int)) = true := by simp; omega
    have HN : Hid (¬ A.Perm B) := Lib.hid fun h => hlen h.length_eq
    have HO := Lib.hid (On.refl hT)
    clear hT hA hB hm hlen
    go_enter Tryd.func49, Tryd.ntmps49
    go_wp2
    go_ret
    exact ⟨⟨false, rfl, by simp, fun h => absurd h HN.out⟩, HO.out⟩
  have hne : (((A.length : Nat) : Int) != ((B.length : Nat) : Int)) = false := by simp; omega
  have HCA : Hid (∀ i, i < B.length → ∃ b off ua uc, aa = some ⟨b, off, none⟩ ∧ w.cell? ⟨b, off + i, none⟩ = some (.slice ua (A.getD i []).length uc) ∧ ∀ wq, On w wq → Reads wq (.slice ua (A.getD i []).length uc) (A.getD i [])) := Lib.hid fun i hi => by
    obtain ⟨b, off, e, u, d0, d1⟩ := hA.cells i (by omega)
    rw [Nat.mul_one] at d0
    obtain ⟨ua, uc, rfl⟩ := d1.shape
    exact ⟨b, off, ua, uc, e, d0, fun wq h => d1.on h⟩
  have HCB : Hid (∀ i, i < B.length → ∃ b off ua uc, ba = some ⟨b, off, none⟩ ∧ w.cell? ⟨b, off + i, none⟩ = some (.slice ua (B.getD i []).length uc) ∧ ∀ wq, On w wq → Reads wq (.slice ua (B.getD i []).length uc) (B.getD i [])) := Lib.hid fun i hi => by
    obtain ⟨b, off, e, u, d0, d1⟩ := hB.cells i hi
    rw [Nat.mul_one] at d0
    obtain ⟨ua, uc, rfl⟩ := d1.shape
    exact ⟨b, off, ua, uc, e, d0, fun wq h => d1.on h⟩
  have HTK : Hid (∀ i, i < A.length → (A.take (i + 1)).Perm (A.getD i [] :: A.take i)) := Lib.hid fun i hi => by
    rw [List.take_succ_eq_append_getElem hi, List.getD_eq_getElem?_getD, List.getElem?_eq_getElem hi]
    exact List.perm_append_singleton _ _
  obtain ⟨m, hmB⟩ : ∃ m, m = B.length := ⟨_, rfl⟩
  rw [hlen] at hne ⊢
  have HAL : Hid (A.length = m) := Lib.hid (by omega)
  have HBL : Hid (B.length = m) := Lib.hid hmB.symm
  rw [← hmB] at hm hne HCA HCB ⊢
  have hmk := fun wx => make_boolz m hm wx
  obtain ⟨Q, hQ⟩ : ∃ Q, Q = w.heap.size := ⟨_, rfl⟩
  have hQw : w.heap.size ≤ Q := by omega
  have HB0 : Hid (BBz Q m (w.alloc (.cells (madeCells #[.bool false] m) 4)) (fun j => (List.replicate m false).getD j true)) := by rw [hQ]; exact Lib.hid (bbz_made w m)
  have HO0 := Lib.hid ((On.refl hT).alloc (.cells (madeCells #[.bool false] m) 4))
  have HRB : Hid ((List.replicate m false).length = m ∧ (usL (List.replicate m false) B).Perm (A.take 0)) := Lib.hid ⟨by simp, by rw [usL_none]; simp⟩
  have HQ := Lib.hid hQ
  clear hT hA hB hlen hmB hQ
  go_enter Tryd.func49, Tryd.ntmps49
  go_wp2_with fail
  rw [← HQ.out]
  clear hmk hne
  go_loopw [6] (fun vi wr => ∃ (i : Nat) (U : List Bool), i ≤ m ∧ vi = .int .i64 (i : Int) ∧ Hid (BBz Q m wr (fun j => U.getD j true)) ∧ Hid (On w wr) ∧ Hid (U.length = m ∧ (usL U B).Perm (A.take i))) (fun vi _ => m - (RowKit.intOf vi).toNat)
  case atStart => exact ⟨0, List.replicate m false, Nat.zero_le _, rfl, HB0, HO0, HRB⟩
  case round =>
    rename World => w1
    obtain ⟨i, U, hi, rfl, HB, HO1, HU⟩ := hrel
    clear HB0 HO0 HRB
    by_cases hlt : i < m
    · have hlt' : (i : Int) < (m : Int) := by omega
      obtain ⟨b1, o1, ua, uc, rfl, c0, hRA⟩ := HCA.out i hlt
      have HC0 := Lib.hid c0; have HRA := Lib.hid hRA
      clear c0 hRA
      go_wp2_with fail
      go_loopw [7, 8] (fun vf vi wr => ∃ (k : Nat) (f : Bool), k ≤ m ∧ vi = .int .i64 (k : Int) ∧ vf = .bool f ∧ Hid (On w wr) ∧ ((f = false ∧ Hid (BBz Q m wr (fun j => U.getD j true)) ∧ Hid (∀ j, j < k → U.getD j true = false → B.getD j [] ≠ A.getD i [])) ∨ (f = true ∧ ∃ U' : List Bool, Hid (BBz Q m wr (fun j => U'.getD j true)) ∧ Hid (U'.length = m ∧ (usL U' B).Perm (A.take (i + 1)))))) (fun _ vi _ => m - (RowKit.intOf vi).toNat)
      case atStart => exact ⟨0, false, Nat.zero_le _, rfl, rfl, HO1, .inl ⟨rfl, HB, Lib.hid (fun j hj => by omega)⟩⟩
      case round =>
        rename World => wv
        obtain ⟨k, f, hk, rfl, rfl, HO, h3⟩ := hrel
        clear HB
        rcases h3 with ⟨rfl, HB, HN⟩ | ⟨rfl, U', HB, HU'⟩
        · by_cases hkt : k < m
          · have hkt' : (k : Int) < (m : Int) := by omega
            obtain ⟨b2, o2, ub, uc2, rfl, d0, hRB⟩ := HCB.out k hkt
            have HWV : Hid (On wv wv) := Lib.hid (On.refl HO.out.tab)
            have HX1 : Hid (∀ wq, On wv wq → wq.cell? ⟨b1, o1 + i, none⟩ = some (.slice ua (A.getD i []).length uc)) := Lib.hid fun wq h => cell_on (HO.out.trans h) HC0.out
            have HX2 : Hid (∀ wq, On wv wq → wq.cell? ⟨b2, o2 + k, none⟩ = some (.slice ub (B.getD k []).length uc2)) := Lib.hid fun wq h => cell_on (HO.out.trans h) d0
            have HXU : Hid (∀ wq, On wv wq → wq.cell? ⟨Q, k, none⟩ = some (.bool (U.getD k true))) := Lib.hid fun wq h => (HB.out.on h).2.1 k hkt
            have HEQ : Hid (∀ wq, On wv wq → Calls Tryd.prog 30 #[.slice ua (A.getD i []).length uc, .slice ub (B.getD k []).length uc2] wq fun e w' => e = .returned (.bool (decide (A.getD i [] = B.getD k []))) ∧ On wv w') := Lib.hid fun wq h => (requal13_any _ _ _ _ wq (HRA.out wq (HO.out.trans h)) (hRB wq (HO.out.trans h))).mono fun e w' ⟨he, n, hw⟩ => ⟨he, by rw [hw]; exact h.drewN n⟩
            have HS1 : Hid (U.getD k true = true → ∀ j, j < k + 1 → U.getD j true = false → B.getD j [] ≠ A.getD i []) := Lib.hid fun e j hj hu => by
              by_cases h : j = k
              · subst h; rw [e] at hu; cases hu
              · exact HN.out j (by omega) hu
            have HS2 : Hid (decide (A.getD i [] = B.getD k []) = false → ∀ j, j < k + 1 → U.getD j true = false → B.getD j [] ≠ A.getD i []) := Lib.hid fun e j hj hu => by
              by_cases h : j = k
              · subst h; exact fun e2 => (of_decide_eq_false e) e2.symm
              · exact HN.out j (by omega) hu
            have HS3 : Hid (U.getD k true = false → decide (A.getD i [] = B.getD k []) = true → (U.set k true).length = m ∧ (usL (U.set k true) B).Perm (A.take (i + 1))) := Lib.hid fun e1 e2 => by
              refine ⟨by rw [List.length_set]; exact HU.out.1, ?_⟩
              have h1 := usL_set U B k (by rw [HU.out.1]; exact hkt) (by rw [HBL.out]; exact hkt) e1
              have h2 := HTK.out i (by rw [HAL.out]; exact hlt)
              rw [← of_decide_eq_true e2] at h1
              exact (h1.trans (HU.out.2.cons _)).trans h2.symm
            clear d0 hRB HN
            generalize decide (A.getD i [] = B.getD k []) = E at *
            generalize (A.getD i []).length = na at *
            generalize (B.getD k []).length = nb at *
            obtain ⟨uk, huk⟩ : ∃ u, U.getD k true = u := ⟨_, rfl⟩
            rw [huk] at HXU HS1 HS3
            have HUK := Lib.hid huk
            clear huk
            cases uk with
            | true =>
              have HS := Lib.hid (HS1.out rfl)
              clear HS1 HS2 HS3
              go_upto_region 11 with fail
              refine region_keep_tail (fun wq => On wv wq) 15 (by kernel_rfl) (by kernel_rfl) (On.refl HO.out.tab).drew ?_
              simp only [List.take_succ_cons, List.take_zero, List.drop_succ_cons, List.drop_zero]
              refine quiet_start fun L9 hL9 => ?_
              refine quiet_take (v := ?av0) hL9 (by kernel_rfl) (fun wq hwq => ?ay0) (fun L9 hL9 => ?ar0)
              case ay0 => (go_simp; try with_reducible rfl)
              try simp only [Act.put, List.setIfInBounds_toArray, List.set_cons_zero, List.set_cons_succ]
              refine quiet_take (v := ?av1) hL9 (by kernel_rfl) (fun wq hwq => ?ay1) (fun L9 hL9 => ?ar1)
              case ay1 => (go_simp; try with_reducible rfl)
              try simp only [Act.put, List.setIfInBounds_toArray, List.set_cons_zero, List.set_cons_succ]
              refine quiet_take (v := .pointer (some ⟨Q, k, none⟩)) hL9 (by kernel_rfl) (fun wq hwq => ?ay2) (fun L9 hL9 => ?ar2)
              case ay2 => (go_simp; try with_reducible rfl)
              try simp only [Act.put, List.setIfInBounds_toArray, List.set_cons_zero, List.set_cons_succ]
              refine quiet_take (v := .bool true) hL9 (by kernel_rfl) (fun wq hwq => ?ay3) (fun L9 hL9 => ?ar3)
              case ay3 => (have c := HXU.out wq hwq; go_simp; try with_reducible rfl)
              try simp only [Act.put, List.setIfInBounds_toArray, List.set_cons_zero, List.set_cons_succ]
              refine quiet_take (v := .bool false) hL9 (by kernel_rfl) (fun wq hwq => ?ay4) (fun L9 hL9 => ?ar4)
              case ay4 => (go_simp; try with_reducible rfl)
              try simp only [Act.put, List.setIfInBounds_toArray, List.set_cons_zero, List.set_cons_succ]
              refine quiet_take (v := .bool false) hL9 (by kernel_rfl) (fun wq hwq => ?ay5) (fun L9 hL9 => ?ar5)
              case ay5 => (go_simp; try with_reducible rfl)
              try simp only [Act.put, List.setIfInBounds_toArray, List.set_cons_zero, List.set_cons_succ]
              refine quiet_skip hL9 (by kernel_rfl) (fun L9 hL9 => ?_)
              try simp only [Act.put, List.setIfInBounds_toArray, List.set_cons_zero, List.set_cons_succ]
              refine quiet_skip hL9 (by kernel_rfl) (fun L9 hL9 => ?_)
              try simp only [Act.put, List.setIfInBounds_toArray, List.set_cons_zero, List.set_cons_succ]
              refine quiet_skip hL9 (by kernel_rfl) (fun L9 hL9 => ?_)
              try simp only [Act.put, List.setIfInBounds_toArray, List.set_cons_zero, List.set_cons_succ]
              refine quiet_skip hL9 (by kernel_rfl) (fun L9 hL9 => ?_)
              try simp only [Act.put, List.setIfInBounds_toArray, List.set_cons_zero, List.set_cons_succ]
              refine quiet_skip hL9 (by kernel_rfl) (fun L9 hL9 => ?_)
              try simp only [Act.put, List.setIfInBounds_toArray, List.set_cons_zero, List.set_cons_succ]
              refine quiet_skip hL9 (by kernel_rfl) (fun L9 hL9 => ?_)
              try simp only [Act.put, List.setIfInBounds_toArray, List.set_cons_zero, List.set_cons_succ]
              refine quiet_skip hL9 (by kernel_rfl) (fun L9 hL9 => ?_)
              try simp only [Act.put, List.setIfInBounds_toArray, List.set_cons_zero, List.set_cons_succ]
              refine quiet_skip hL9 (by kernel_rfl) (fun L9 hL9 => ?_)
              try simp only [Act.put, List.setIfInBounds_toArray, List.set_cons_zero, List.set_cons_succ]
              refine quiet_skip hL9 (by kernel_rfl) (fun L9 hL9 => ?_)
              try simp only [Act.put, List.setIfInBounds_toArray, List.set_cons_zero, List.set_cons_succ]
              refine quiet_nil hL9 ?_
              clear hL9
              intro wy hOy
              have HB2 := Lib.hid (HB.out.on hOy)
              have HO2 := Lib.hid (HO.out.trans hOy)
              clear hOy
              go_wp2
              go_roundw
              case rel => exact ⟨k + 1, false, by omega, by simp, rfl, HO2, .inl ⟨rfl, HB2, HS⟩⟩
              case measure => simp [RowKit.intOf]; omega
            | false =>
              cases E with
              | false =>
                have HS := Lib.hid (HS2.out rfl)
                clear HS1 HS2 HS3
                go_upto_region 11 with fail
                refine region_keep_tail (fun wq => On wv wq) 15 (by kernel_rfl) (by kernel_rfl) (On.refl HO.out.tab).drew ?_
                simp only [List.take_succ_cons, List.take_zero, List.drop_succ_cons, List.drop_zero]
                refine quiet_start fun L9 hL9 => ?_
                refine quiet_take (v := ?bv0) hL9 (by kernel_rfl) (fun wq hwq => ?by0) (fun L9 hL9 => ?br0)
                case by0 => (go_simp; try with_reducible rfl)
                try simp only [Act.put, List.setIfInBounds_toArray, List.set_cons_zero, List.set_cons_succ]
                refine quiet_take (v := ?bv1) hL9 (by kernel_rfl) (fun wq hwq => ?by1) (fun L9 hL9 => ?br1)
                case by1 => (go_simp; try with_reducible rfl)
                try simp only [Act.put, List.setIfInBounds_toArray, List.set_cons_zero, List.set_cons_succ]
                refine quiet_take (v := .pointer (some ⟨Q, k, none⟩)) hL9 (by kernel_rfl) (fun wq hwq => ?by2) (fun L9 hL9 => ?br2)
                case by2 => (go_simp; try with_reducible rfl)
                try simp only [Act.put, List.setIfInBounds_toArray, List.set_cons_zero, List.set_cons_succ]
                refine quiet_take (v := .bool false) hL9 (by kernel_rfl) (fun wq hwq => ?by3) (fun L9 hL9 => ?br3)
                case by3 => (have c := HXU.out wq hwq; go_simp; try with_reducible rfl)
                try simp only [Act.put, List.setIfInBounds_toArray, List.set_cons_zero, List.set_cons_succ]
                refine quiet_take (v := .bool true) hL9 (by kernel_rfl) (fun wq hwq => ?by4) (fun L9 hL9 => ?br4)
                case by4 => (go_simp; try with_reducible rfl)
                try simp only [Act.put, List.setIfInBounds_toArray, List.set_cons_zero, List.set_cons_succ]
                refine quiet_take (v := .bool true) hL9 (by kernel_rfl) (fun wq hwq => ?by5) (fun L9 hL9 => ?br5)
                case by5 => (go_simp; try with_reducible rfl)
                try simp only [Act.put, List.setIfInBounds_toArray, List.set_cons_zero, List.set_cons_succ]
                refine quiet_take (v := ?bv6) hL9 (by kernel_rfl) (fun wq hwq => ?by6) (fun L9 hL9 => ?br6)
                case by6 => (go_simp; try with_reducible rfl)
                try simp only [Act.put, List.setIfInBounds_toArray, List.set_cons_zero, List.set_cons_succ]
                refine quiet_take (v := ?bv7) hL9 (by kernel_rfl) (fun wq hwq => ?by7) (fun L9 hL9 => ?br7)
                case by7 => (go_simp; try with_reducible rfl)
                try simp only [Act.put, List.setIfInBounds_toArray, List.set_cons_zero, List.set_cons_succ]
                refine quiet_take (v := .pointer (some ⟨b1, o1 + i, none⟩)) hL9 (by kernel_rfl) (fun wq hwq => ?by8) (fun L9 hL9 => ?br8)
                case by8 => (go_simp; try with_reducible rfl)
                try simp only [Act.put, List.setIfInBounds_toArray, List.set_cons_zero, List.set_cons_succ]
                refine quiet_take (v := .slice ua na uc) hL9 (by kernel_rfl) (fun wq hwq => ?by9) (fun L9 hL9 => ?br9)
                case by9 => (have c := HX1.out wq hwq; go_simp; try with_reducible rfl)
                try simp only [Act.put, List.setIfInBounds_toArray, List.set_cons_zero, List.set_cons_succ]
                refine quiet_take (v := ?bv10) hL9 (by kernel_rfl) (fun wq hwq => ?by10) (fun L9 hL9 => ?br10)
                case by10 => (go_simp; try with_reducible rfl)
                try simp only [Act.put, List.setIfInBounds_toArray, List.set_cons_zero, List.set_cons_succ]
                refine quiet_take (v := ?bv11) hL9 (by kernel_rfl) (fun wq hwq => ?by11) (fun L9 hL9 => ?br11)
                case by11 => (go_simp; try with_reducible rfl)
                try simp only [Act.put, List.setIfInBounds_toArray, List.set_cons_zero, List.set_cons_succ]
                refine quiet_take (v := .pointer (some ⟨b2, o2 + k, none⟩)) hL9 (by kernel_rfl) (fun wq hwq => ?by12) (fun L9 hL9 => ?br12)
                case by12 => (go_simp; try with_reducible rfl)
                try simp only [Act.put, List.setIfInBounds_toArray, List.set_cons_zero, List.set_cons_succ]
                refine quiet_take (v := .slice ub nb uc2) hL9 (by kernel_rfl) (fun wq hwq => ?by13) (fun L9 hL9 => ?br13)
                case by13 => (have c := HX2.out wq hwq; go_simp; try with_reducible rfl)
                try simp only [Act.put, List.setIfInBounds_toArray, List.set_cons_zero, List.set_cons_succ]
                refine quiet_take (v := .bool false) hL9 (by kernel_rfl) (fun wq hwq => ?by14) (fun L9 hL9 => ?br14)
                case by14 => (go_simp; go_at_call 30; exact HEQ.out wq hwq)
                try simp only [Act.put, List.setIfInBounds_toArray, List.set_cons_zero, List.set_cons_succ]
                refine quiet_nil hL9 ?_
                clear hL9
                intro wy hOy
                have HB2 := Lib.hid (HB.out.on hOy)
                have HO2 := Lib.hid (HO.out.trans hOy)
                clear hOy
                go_wp2
                go_roundw
                case rel => exact ⟨k + 1, false, by omega, by simp, rfl, HO2, .inl ⟨rfl, HB2, HS⟩⟩
                case measure => simp [RowKit.intOf]; omega
              | true =>
                have HS := Lib.hid (HS3.out rfl rfl)
                clear HS1 HS2 HS3
                go_upto_region 11 with fail
                refine region_keep_tail (fun wq => On wv wq) 15 (by kernel_rfl) (by kernel_rfl) (On.refl HO.out.tab).drew ?_
                simp only [List.take_succ_cons, List.take_zero, List.drop_succ_cons, List.drop_zero]
                refine quiet_start fun L9 hL9 => ?_
                refine quiet_take (v := ?cv0) hL9 (by kernel_rfl) (fun wq hwq => ?cy0) (fun L9 hL9 => ?cr0)
                case cy0 => (go_simp; try with_reducible rfl)
                try simp only [Act.put, List.setIfInBounds_toArray, List.set_cons_zero, List.set_cons_succ]
                refine quiet_take (v := ?cv1) hL9 (by kernel_rfl) (fun wq hwq => ?cy1) (fun L9 hL9 => ?cr1)
                case cy1 => (go_simp; try with_reducible rfl)
                try simp only [Act.put, List.setIfInBounds_toArray, List.set_cons_zero, List.set_cons_succ]
                refine quiet_take (v := .pointer (some ⟨Q, k, none⟩)) hL9 (by kernel_rfl) (fun wq hwq => ?cy2) (fun L9 hL9 => ?cr2)
                case cy2 => (go_simp; try with_reducible rfl)
                try simp only [Act.put, List.setIfInBounds_toArray, List.set_cons_zero, List.set_cons_succ]
                refine quiet_take (v := .bool false) hL9 (by kernel_rfl) (fun wq hwq => ?cy3) (fun L9 hL9 => ?cr3)
                case cy3 => (have c := HXU.out wq hwq; go_simp; try with_reducible rfl)
                try simp only [Act.put, List.setIfInBounds_toArray, List.set_cons_zero, List.set_cons_succ]
                refine quiet_take (v := .bool true) hL9 (by kernel_rfl) (fun wq hwq => ?cy4) (fun L9 hL9 => ?cr4)
                case cy4 => (go_simp; try with_reducible rfl)
                try simp only [Act.put, List.setIfInBounds_toArray, List.set_cons_zero, List.set_cons_succ]
                refine quiet_take (v := .bool true) hL9 (by kernel_rfl) (fun wq hwq => ?cy5) (fun L9 hL9 => ?cr5)
                case cy5 => (go_simp; try with_reducible rfl)
                try simp only [Act.put, List.setIfInBounds_toArray, List.set_cons_zero, List.set_cons_succ]
                refine quiet_take (v := ?cv6) hL9 (by kernel_rfl) (fun wq hwq => ?cy6) (fun L9 hL9 => ?cr6)
                case cy6 => (go_simp; try with_reducible rfl)
                try simp only [Act.put, List.setIfInBounds_toArray, List.set_cons_zero, List.set_cons_succ]
                refine quiet_take (v := ?cv7) hL9 (by kernel_rfl) (fun wq hwq => ?cy7) (fun L9 hL9 => ?cr7)
                case cy7 => (go_simp; try with_reducible rfl)
                try simp only [Act.put, List.setIfInBounds_toArray, List.set_cons_zero, List.set_cons_succ]
                refine quiet_take (v := .pointer (some ⟨b1, o1 + i, none⟩)) hL9 (by kernel_rfl) (fun wq hwq => ?cy8) (fun L9 hL9 => ?cr8)
                case cy8 => (go_simp; try with_reducible rfl)
                try simp only [Act.put, List.setIfInBounds_toArray, List.set_cons_zero, List.set_cons_succ]
                refine quiet_take (v := .slice ua na uc) hL9 (by kernel_rfl) (fun wq hwq => ?cy9) (fun L9 hL9 => ?cr9)
                case cy9 => (have c := HX1.out wq hwq; go_simp; try with_reducible rfl)
                try simp only [Act.put, List.setIfInBounds_toArray, List.set_cons_zero, List.set_cons_succ]
                refine quiet_take (v := ?cv10) hL9 (by kernel_rfl) (fun wq hwq => ?cy10) (fun L9 hL9 => ?cr10)
                case cy10 => (go_simp; try with_reducible rfl)
                try simp only [Act.put, List.setIfInBounds_toArray, List.set_cons_zero, List.set_cons_succ]
                refine quiet_take (v := ?cv11) hL9 (by kernel_rfl) (fun wq hwq => ?cy11) (fun L9 hL9 => ?cr11)
                case cy11 => (go_simp; try with_reducible rfl)
                try simp only [Act.put, List.setIfInBounds_toArray, List.set_cons_zero, List.set_cons_succ]
                refine quiet_take (v := .pointer (some ⟨b2, o2 + k, none⟩)) hL9 (by kernel_rfl) (fun wq hwq => ?cy12) (fun L9 hL9 => ?cr12)
                case cy12 => (go_simp; try with_reducible rfl)
                try simp only [Act.put, List.setIfInBounds_toArray, List.set_cons_zero, List.set_cons_succ]
                refine quiet_take (v := .slice ub nb uc2) hL9 (by kernel_rfl) (fun wq hwq => ?cy13) (fun L9 hL9 => ?cr13)
                case cy13 => (have c := HX2.out wq hwq; go_simp; try with_reducible rfl)
                try simp only [Act.put, List.setIfInBounds_toArray, List.set_cons_zero, List.set_cons_succ]
                refine quiet_take (v := .bool true) hL9 (by kernel_rfl) (fun wq hwq => ?cy14) (fun L9 hL9 => ?cr14)
                case cy14 => (go_simp; go_at_call 30; exact HEQ.out wq hwq)
                try simp only [Act.put, List.setIfInBounds_toArray, List.set_cons_zero, List.set_cons_succ]
                refine quiet_nil hL9 ?_
                clear hL9
                intro wy hOy
                have hB2 := HB.out.on hOy
                have y0 := hB2.2.1 k hkt
                have yz := hB2.2.2 k
                have HB2 : Hid (BBz Q m (wy.setCell ⟨Q, k, none⟩ (.bool true)) (fun j => (U.set k true).getD j true)) := Lib.hid ((hB2.set k true hkt).eq fun j hj => set_getDz U k j m HU.out.1 hj hkt)
                have HO2 : Hid (On w (wy.setCell ⟨Q, k, none⟩ (.bool true))) := Lib.hid ((HO.out.trans hOy).setCell hQw _)
                clear hOy hB2
                go_wp2
                go_roundw
                case rel => exact ⟨k + 1, true, by omega, by simp, rfl, HO2, .inr ⟨rfl, U.set k true, HB2, HS⟩⟩
                case measure => simp [RowKit.intOf]; omega
          · obtain rfl : m = k := by omega
            have HF : Hid (¬ A.Perm B) := Lib.hid (usL_end U A B i (by rw [HAL.out]; exact hlt) (by rw [HU.out.1, HBL.out]) HU.out.2 (fun j hj => HN.out j (by rw [← HBL.out]; exact hj)))
            go_wp2
            go_ret
            exact ⟨⟨false, rfl, by simp, fun h => absurd h HF.out⟩, HO.out⟩
        · by_cases hkt : (k : Int) < (m : Int)
          · go_wp2
            go_roundw
            case rel => exact ⟨i + 1, U', by omega, by simp, HB, HO, HU'⟩
            case measure => simp [RowKit.intOf]; omega
          · go_wp2
            go_roundw
            case rel => exact ⟨i + 1, U', by omega, by simp, HB, HO, HU'⟩
            case measure => simp [RowKit.intOf]; omega
    · obtain rfl : m = i := by omega
      have HF : Hid (A.Perm B) := Lib.hid (by
        have h := HU.out.2
        rw [show A.take m = A by rw [← HAL.out, List.take_length]] at h
        exact usL_all U A B h (by rw [HAL.out, HBL.out]))
      go_wp2
      go_ret
      exact ⟨⟨true, rfl, fun _ => HF.out, fun _ => rfl⟩, HO1.out⟩
end Go.Proofs.YtnanjacllmdenaaDoor

/- The document's counted: what the call returns. -/
namespace Go.Proofs.YtnanjacllmdenaaDoor
open Go.RowKit Go.Lib
set_option linter.unusedVariables false

theorem row_lt {S : Sy} (h : szS S = true) : rowN S < pOf S.f := by
  obtain ⟨hvf, f1, f2, f3, f4, f5, f6, f7, f8, f9, fa, fb⟩ := szS_facts h
  have hrw : ∀ k : Nat, S.rows.toNat ≤ k → rowN S ≤ 2 ^ k := fun k hk => Nat.pow_le_pow_right (by omega) hk
  have h9 : S.f = 0 ∨ S.f = 1 ∨ S.f = 2 ∨ S.f = 3 := by unfold validB at hvf; simp only [decide_eq_true_eq] at hvf; omega
  rcases h9 with e | e | e | e
  · have h3 := hrw 5 (by rw [e] at f3; have : (twoOf 0 : Int) = 5 := rfl; omega)
    rw [e]; have : pOf 0 = 97 := rfl; omega
  · have h3 := hrw 8 (by rw [e] at f3; have : (twoOf 1 : Int) = 8 := rfl; omega)
    rw [e]; have : pOf 1 = 257 := rfl; omega
  · have h3 := hrw 12 (by rw [e] at f3; have : (twoOf 2 : Int) = 12 := rfl; omega)
    rw [e]; have : pOf 2 = 12289 := rfl; omega
  · have h3 := hrw 13 (by omega)
    rw [e]; have : pOf 3 = 998244353 := rfl; omega
set_option maxHeartbeats 8000000 in
set_option maxRecDepth 100000 in
theorem rcounted_any (S : Sy) (H : Sh) (T : Tr) (pa ma : Option Addr) (pc mc : Nat) (l : Lk) (ua va : Option Addr) (uc vc : Nat) (w : World) (hT : Tab w) (hR : SyR w H S) (hTr : TrR w pa ma pc mc T) (hF : fitS S T = true) (hA : VRw w (.slice ua l.tu.length uc) l.tu) (hB : VRw w (.slice va l.ta.length vc) l.ta) (hka : l.tu.length ≤ 4 ∧ ∀ v ∈ l.tu, hasK S [1, 3] v = true) (hkb : l.ta.length ≤ 4 ∧ ∀ v ∈ l.ta, hasK S [1, 3] v = true) (hkc : hasK S [1] l.ct = true) :
    Calls Tryd.prog 51 #[syA S H, .agg #[.slice pa T.pub.length pc, .slice ma T.main.length mc], .agg #[.slice ua l.tu.length uc, .slice va l.ta.length vc, .int .u8 l.ct.1, .int .i64 l.ct.2]] w fun e w' => e = .returned (.bool (cntB S.f (fun k => l.tu.map (valE (envS S T k))) (fun k => l.ta.map (valE (envS S T k))) (fun k => valE (envS S T k) l.ct) (rowN S) (2 * rowN S))) ∧ On w w' := by
  have hsz : szS S = true := by
    have hv : valSy S = true := by unfold fitS at hF; simp only [Bool.and_eq_true] at hF; exact hF.1
    unfold valSy at hv; simp only [Bool.and_eq_true] at hv; exact hv.1
  obtain ⟨hvf, f1, f2, f3, f4, f5, f6, f7, f8, f9, fa, fb⟩ := szS_facts hsz
  have hqb := rowN_le hsz
  have hpp : 0 < pOf S.f := Nat.lt_of_le_of_lt (Nat.zero_le _) (row_lt hsz)
  obtain ⟨W0, hW0⟩ : ∃ W0, W0 = ((w.alloc (syO S H)).alloc (.cells #[.slice pa T.pub.length pc, .slice ma T.main.length mc] 30)).alloc (.cells #[.slice ua l.tu.length uc, .slice va l.ta.length vc, .int .u8 l.ct.1, .int .i64 l.ct.2] 81) := ⟨_, rfl⟩
  have hA1 := (On.refl hT).alloc (syO S H)
  have hA2 := (On.refl hA1.tab).alloc (.cells #[.slice pa T.pub.length pc, .slice ma T.main.length mc] 30)
  have hA3 := (On.refl hA2.tab).alloc (.cells #[.slice ua l.tu.length uc, .slice va l.ta.length vc, .int .u8 l.ct.1, .int .i64 l.ct.2] 81)
  have hO0 : On w W0 := by rw [hW0]; exact hA1.trans (hA2.trans hA3)
  obtain ⟨Q, hQ⟩ : ∃ Q, Q = w.heap.size := ⟨_, rfl⟩
  have hB0 : VB Q W0 (syL S H) := by rw [hW0, hQ]; exact ((vb_newS S H w).on hA2).on hA3
  have hB1 : VB (Q + 1) W0 [.slice pa T.pub.length pc, .slice ma T.main.length mc] := by
    have h := vb_new (w.alloc (syO S H)) #[.slice pa T.pub.length pc, .slice ma T.main.length mc] 30
    rw [World.size_alloc] at h
    rw [hW0, hQ]; exact h.on hA3
  have hB2 : VB (Q + 2) W0 [.slice ua l.tu.length uc, .slice va l.ta.length vc, .int .u8 l.ct.1, .int .i64 l.ct.2] := by
    have h := vb_new ((w.alloc (syO S H)).alloc (.cells #[.slice pa T.pub.length pc, .slice ma T.main.length mc] 30)) #[.slice ua l.tu.length uc, .slice va l.ta.length vc, .int .u8 l.ct.1, .int .i64 l.ct.2] 81
    rw [World.size_alloc, World.size_alloc] at h
    rw [hW0, hQ]; exact h
  have HSY : Hid (∀ wq, On W0 wq → _) := Lib.hid fun wq h => sy_cells (hB0.on h)
  have HTB : Hid (∀ wq, On W0 wq → wq.cell? ⟨Q + 1, 0, none⟩ = some (.slice pa T.pub.length pc) ∧ wq.cell? ⟨Q + 1, 1, none⟩ = some (.slice ma T.main.length mc)) := Lib.hid fun wq h => ⟨(hB1.on h).2.1 0 _ rfl, (hB1.on h).2.1 1 _ rfl⟩
  have hia : ∃ ix : Nat, l.ct.2 = (ix : Int) ∧ ix < T.main.length ∧ l.ct.1 = 1 ∧ ∀ k, k < rowN S → ColAt W0 ma ix k (rowN S) (valE (envS S T k) l.ct) := by
    have h13 := has_sub (ks := [1]) (fun x hx => .inl (by simpa using hx)) _ hkc
    have hk1 : l.ct.1 = 1 := by unfold hasK at hkc; simp only [Bool.and_eq_true] at hkc; simpa using hkc.2
    obtain ⟨ix, e, h3⟩ := tup_at hR hTr hF (row := 0) (by omega) h13
    have hix : ix < T.main.length := by
      rcases h3 with ⟨_, h, _⟩ | ⟨h, _, _⟩
      · exact h
      · rw [hk1] at h; omega
    refine ⟨ix, e, hix, hk1, fun k hk => ?_⟩
    obtain ⟨ix2, e2, h4⟩ := tup_at hR hTr hF hk h13
    obtain rfl : ix = ix2 := by omega
    rcases h4 with ⟨_, _, h⟩ | ⟨h, _, _⟩
    · exact h.on hO0
    · rw [hk1] at h; omega
  obtain ⟨ix, hix1, hix2, hix0, hix3⟩ := hia
  have HLB : Hid (∀ wq, On W0 wq → wq.cell? ⟨Q + 2, 0, none⟩ = some (.slice ua l.tu.length uc) ∧ wq.cell? ⟨Q + 2, 1, none⟩ = some (.slice va l.ta.length vc) ∧ wq.cell? ⟨Q + 2, 3, none⟩ = some (.int .i64 (ix : Int))) := Lib.hid fun wq h => ⟨(hB2.on h).2.1 0 _ rfl, (hB2.on h).2.1 1 _ rfl, by rw [← hix1]; exact (hB2.on h).2.1 3 _ rfl⟩
  have HSZ : Hid (∀ wq, On W0 wq → Calls Tryd.prog 45 #[syA S H] wq fun e w' => e = .returned (.int .i64 ((rowN S : Nat) : Int)) ∧ On W0 w') := Lib.hid fun wq h => (rsize_any S H wq h.tab (by omega) (by omega)).mono fun e w' ⟨he, ho⟩ => ⟨he, h.trans ho⟩
  obtain ⟨fa9, hfa⟩ : ∃ a, a = (fun k => l.tu.map (valE (envS S T k))) := ⟨_, rfl⟩
  obtain ⟨fb9, hfb⟩ : ∃ a, a = (fun k => l.ta.map (valE (envS S T k))) := ⟨_, rfl⟩
  obtain ⟨fc9, hfc⟩ : ∃ a, a = (fun k => valE (envS S T k) l.ct) := ⟨_, rfl⟩
  rw [← hfa, ← hfb, ← hfc]
  have HTA : Hid (∀ W, On W0 W → ∀ k : Nat, k < rowN S → ∀ wq, On W wq → Calls Tryd.prog 99 #[syA S H, .agg #[.slice pa T.pub.length pc, .slice ma T.main.length mc], .int .i64 (k : Int), .slice ua l.tu.length uc] wq fun e w' => (∃ u, e = .returned u ∧ NR w' u (fa9 k)) ∧ On W w') := Lib.hid fun W hW k hk wq h => by
    rw [hfa]
    have hq := hO0.trans (hW.trans h)
    exact (rtupv_any S H T pa ma pc mc _ ua uc k wq h.tab (hR.on hq) (hTr.on hq) hF hk (hA.on hq) hka.2 (by omega)).mono fun e w' ⟨⟨u, he, hn, hf⟩, ho⟩ => ⟨⟨u, he, hn⟩, h.trans ho⟩
  have HTB2 : Hid (∀ W, On W0 W → ∀ k : Nat, k < rowN S → ∀ wq, On W wq → Calls Tryd.prog 99 #[syA S H, .agg #[.slice pa T.pub.length pc, .slice ma T.main.length mc], .int .i64 (k : Int), .slice va l.ta.length vc] wq fun e w' => (∃ u, e = .returned u ∧ NR w' u (fb9 k)) ∧ On W w') := Lib.hid fun W hW k hk wq h => by
    rw [hfb]
    have hq := hO0.trans (hW.trans h)
    exact (rtupv_any S H T pa ma pc mc _ va vc k wq h.tab (hR.on hq) (hTr.on hq) hF hk (hB.on hq) hkb.2 (by omega)).mono fun e w' ⟨⟨u, he, hn, hf⟩, ho⟩ => ⟨⟨u, he, hn⟩, h.trans ho⟩
  have HCT : Hid (∀ k, k < rowN S → ColAt W0 ma ix k (rowN S) (fc9 k)) := Lib.hid fun k hk => by rw [hfc]; exact hix3 k hk
  have HAD : Hid (∀ W, On W0 W → ∀ a b : Nat, a ≤ 18446744073709551615 → b ≤ 18446744073709551615 → ∀ wq, On W wq → Calls Tryd.prog 25 #[.int .i64 S.f, .int .u64 (a : Int), .int .u64 (b : Int)] wq fun e w' => e = .returned (.int .u64 ((addF S.f a b : Nat) : Int)) ∧ On W w') := Lib.hid fun W hW a b ha hb wq h => (radd_any S.f a b wq ha hb).mono fun e w' ⟨he, n, hw⟩ => ⟨he, by rw [hw]; exact h.drewN n⟩
  have HEQ : Hid (∀ (x y : List Nat) (u v : Value) (W wq : World), On W wq → NR wq u x → NR wq v y → Calls Tryd.prog 30 #[u, v] wq fun e w' => e = .returned (.bool (decide (x = y))) ∧ On W w') := Lib.hid fun x y u v W wq h h1 h2 => (requal13_any x y u v wq h1.1 h2.1).mono fun e w' ⟨he, n, hw⟩ => ⟨he, by rw [hw]; exact h.drewN n⟩
  have HP9 : Hid (pOf S.f ≤ 998244353) := Lib.hid (by unfold pOf; split <;> (try omega) <;> split <;> (try omega) <;> split <;> (try omega) <;> split <;> omega)
  have HFL : Hid (∀ s k, fndN S.f fa9 s k < pOf S.f) := Lib.hid fun s k => fnd_lt S.f hpp fa9 s k
  have HSL : Hid (∀ s k, smN S.f fb9 fc9 s k < pOf S.f) := Lib.hid fun s k => sm_lt S.f hpp fb9 fc9 s k
  have hN1 : 2 ≤ rowN S ∧ rowN S ≤ 8192 := hqb
  have HW0 := Lib.hid hW0; have HQ := Lib.hid hQ; have HO0 := Lib.hid hO0
  have H00 := Lib.hid (On.refl hO0.tab)
  have hml : T.main.length ≤ 9223372036854775807 := hTr.2.1
  clear hT hR hTr hF hA hB hka hkb hkc hW0 hO0 hQ hA1 hA2 hA3 hB0 hB1 hB2 hvf f1 f2 f3 f4 f5 f6 f7 f8 f9 fa fb hqb hsz hpp hix0 hix3 hfa hfb hfc
  generalize l.ct.1 = c1 at *
  rw [hix1] at HW0 ⊢
  clear hix1
  generalize l.tu.length = un at *
  generalize l.ta.length = vn at *
  generalize rowN S = N at *
  generalize T.main.length = M at *
  go_enter Tryd.func51, Tryd.ntmps51
  go_upto_region 1 with fail
  rw [← HW0.out, ← HQ.out]
  obtain ⟨s0, s1, s2, s3, s4, s5, s6, s7⟩ := HSY.out _ H00.out
  go_wp2_with (go_at_call 45; (with_reducible refine (HSZ.out _ H00.out).mono ?_); rintro e w1 ⟨rfl, hO1⟩; have HO1 := Lib.hid hO1)
  clear s0 s1 s2 s3 s4 s5 s6 s7 hO1
  have hmul : IntKind.i64.wrap (2 * (N : Int)) = 2 * (N : Int) := IntWalk.i64_in _ ⟨by omega, by omega⟩
  go_loopw [8] (fun vi wr => ∃ r : Nat, r ≤ 2 * N ∧ vi = .int .i64 (r : Int) ∧ Hid (cntB S.f fa9 fb9 fc9 N r = true) ∧ Hid (On W0 wr)) (fun vi _ => 2 * N - (RowKit.intOf vi).toNat)
  case atStart => exact ⟨0, Nat.zero_le _, rfl, Lib.hid rfl, HO1⟩
  case round =>
    rename World => wr
    obtain ⟨r, hr, rfl, HCB, HO⟩ := hrel
    by_cases hlt : r < 2 * N
    · have hlt' : (r : Int) < 2 * (N : Int) := by omega
      have HCS : Hid (cntB S.f fa9 fb9 fc9 N (r + 1) = okC S.f fa9 fb9 fc9 N r) := Lib.hid (by rw [cntB_succ, HCB.out]; rfl)
      have HCN : Hid (okC S.f fa9 fb9 fc9 N r = false → cntB S.f fa9 fb9 fc9 N (2 * N) = false) := Lib.hid fun h => cntB_no h hlt
      obtain ⟨q, hq⟩ : ∃ q, q = r % N := ⟨_, rfl⟩
      have hqN : q < N := hq ▸ Nat.mod_lt _ (by omega)
      have HQM : Hid ((r : Int).tmod (N : Int) = (q : Int)) := Lib.hid (by rw [Int.tmod_eq_emod_of_nonneg (by omega), hq, Int.natCast_emod])
      have hN0 : ¬ N = 0 := by omega
      have hN0i : ¬ (N : Int) = 0 := by omega
      have HVR : Hid (valR fa9 fb9 N r = if r < N then fa9 q else fb9 q) := Lib.hid (by
        unfold valR
        by_cases h : r < N
        · rw [if_pos h, if_pos h, hq, Nat.mod_eq_of_lt h]
        · rw [if_neg h, if_neg h, hq, Nat.mod_eq_sub_mod (by omega), Nat.mod_eq_of_lt (by omega)])
      clear hq
      have HT1 := Lib.hid (HTA.out wr HO.out q hqN)
      go_upto_region 5 with fail
      obtain ⟨V0, hV0⟩ : ∃ V0, V0 = wr.drew := ⟨_, rfl⟩
      have hS0 : On wr V0 := by rw [hV0]; exact (On.refl HO.out.tab).drew
      refine region_head_tail (S := fun wx => On wr wx) 8 (by kernel_rfl) (by kernel_rfl) ?_
      rw [← hV0]
      clear hV0
      refine HeadG.take (i := 0) (v := syA S H) rfl (by kernel_rfl) (by kernel_rfl) (by kernel_rfl) (by kernel_rfl) (by kernel_rfl) (by kernel_rfl) (by kernel_rfl) (fun _ _ _ h => h) (Or.inl ⟨by rfl, ?tay0⟩) hS0 ?tar0
      case tay0 => (intro wq hwq; obtain ⟨s0, s1, s2, s3, s4, s5, s6, s7⟩ := HSY.out wq (HO.out.trans hwq); go_simp; try with_reducible rfl)
      try simp only [Act.put, List.setIfInBounds_toArray, List.set_cons_zero, List.set_cons_succ, List.getElem_toArray, List.getElem_cons_zero, List.getElem_cons_succ]
      refine HeadG.take (i := 1) (v := .agg #[.slice pa T.pub.length pc, .slice ma M mc]) rfl (by kernel_rfl) (by kernel_rfl) (by kernel_rfl) (by kernel_rfl) (by kernel_rfl) (by kernel_rfl) (by kernel_rfl) (fun _ _ _ h => h) (Or.inl ⟨by rfl, ?tay1⟩) hS0 ?tar1
      case tay1 => (intro wq hwq; obtain ⟨l0, l1⟩ := HTB.out wq (HO.out.trans hwq); go_simp; try with_reducible rfl)
      try simp only [Act.put, List.setIfInBounds_toArray, List.set_cons_zero, List.set_cons_succ, List.getElem_toArray, List.getElem_cons_zero, List.getElem_cons_succ]
      refine HeadG.take (i := 2) (v := ?tav2) rfl (by kernel_rfl) (by kernel_rfl) (by kernel_rfl) (by kernel_rfl) (by kernel_rfl) (by kernel_rfl) (by kernel_rfl) (fun _ _ _ h => h) (Or.inl ⟨by rfl, ?tay2⟩) hS0 ?tar2
      case tay2 => (intro wq hwq; go_simp; try with_reducible rfl)
      try simp only [Act.put, List.setIfInBounds_toArray, List.set_cons_zero, List.set_cons_succ, List.getElem_toArray, List.getElem_cons_zero, List.getElem_cons_succ]
      refine HeadG.take (i := 3) (v := ?tav3) rfl (by kernel_rfl) (by kernel_rfl) (by kernel_rfl) (by kernel_rfl) (by kernel_rfl) (by kernel_rfl) (by kernel_rfl) (fun _ _ _ h => h) (Or.inl ⟨by rfl, ?tay3⟩) hS0 ?tar3
      case tay3 => (intro wq hwq; go_simp; try with_reducible rfl)
      try simp only [Act.put, List.setIfInBounds_toArray, List.set_cons_zero, List.set_cons_succ, List.getElem_toArray, List.getElem_cons_zero, List.getElem_cons_succ]
      refine HeadG.take (i := 4) (v := .int .i64 (q : Int)) rfl (by kernel_rfl) (by kernel_rfl) (by kernel_rfl) (by kernel_rfl) (by kernel_rfl) (by kernel_rfl) (by kernel_rfl) (fun _ _ _ h => h) (Or.inl ⟨by rfl, ?tay4⟩) hS0 ?tar4
      case tay4 => (intro wq hwq; have h9 := HQM.out; go_simp; try rw [h9])
      try simp only [Act.put, List.setIfInBounds_toArray, List.set_cons_zero, List.set_cons_succ, List.getElem_toArray, List.getElem_cons_zero, List.getElem_cons_succ]
      refine HeadG.take (i := 5) (v := ?tav5) rfl (by kernel_rfl) (by kernel_rfl) (by kernel_rfl) (by kernel_rfl) (by kernel_rfl) (by kernel_rfl) (by kernel_rfl) (fun _ _ _ h => h) (Or.inl ⟨by rfl, ?tay5⟩) hS0 ?tar5
      case tay5 => (intro wq hwq; go_simp; try with_reducible rfl)
      try simp only [Act.put, List.setIfInBounds_toArray, List.set_cons_zero, List.set_cons_succ, List.getElem_toArray, List.getElem_cons_zero, List.getElem_cons_succ]
      refine HeadG.take (i := 6) (v := .slice ua un uc) rfl (by kernel_rfl) (by kernel_rfl) (by kernel_rfl) (by kernel_rfl) (by kernel_rfl) (by kernel_rfl) (by kernel_rfl) (fun _ _ _ h => h) (Or.inl ⟨by rfl, ?tay6⟩) hS0 ?tar6
      case tay6 => (intro wq hwq; obtain ⟨p0, p1, p3⟩ := HLB.out wq (HO.out.trans hwq); go_simp; try with_reducible rfl)
      try simp only [Act.put, List.setIfInBounds_toArray, List.set_cons_zero, List.set_cons_succ, List.getElem_toArray, List.getElem_cons_zero, List.getElem_cons_succ]
      refine HeadG.one (i := 7) rfl (by kernel_rfl) (by kernel_rfl) (fun K9 hK9 => ?_)
      go_simp
      go_at_call 99
      (with_reducible refine (HT1.out _ hS0).mono ?_)
      rintro e wa ⟨⟨u, rfl, hNu⟩, hOa⟩
      refine hK9.out _ _ hOa ?_
      clear hK9 K9
      try simp only [Act.put, List.setIfInBounds_toArray, List.set_cons_zero, List.set_cons_succ, List.getElem_toArray, List.getElem_cons_zero, List.getElem_cons_succ]
      refine HeadG.last (i := 8) rfl (by kernel_rfl) (by kernel_rfl) (by kernel_rfl) (fun K9 hK9 => ?_)
      go_simp
      refine hK9.out _ _ ?_
      clear hK9 K9
      try simp only [Act.put, List.setIfInBounds_toArray, List.set_cons_zero, List.set_cons_succ, List.getElem_toArray, List.getElem_cons_zero, List.getElem_cons_succ]
      have HNa := Lib.hid hNu
      have HOa := Lib.hid (HO.out.trans hOa)
      clear hNu hOa HT1
      by_cases hrn : r < N
      · have hrn' : ¬ ((r : Int) ≥ (N : Int)) := by omega
        have hrn2 : ¬ ((N : Int) ≤ (r : Int)) := by omega
        rw [if_pos hrn] at HVR
        clear hrn
        have HVS : Hid (okC S.f fa9 fb9 fc9 N r = (decide (fndN S.f fa9 (fa9 q) N = smN S.f fb9 fc9 (fa9 q) N) && thB fb9 (fa9 q) N)) := Lib.hid (by unfold okC; rw [HVR.out])
        have HTA1 := Lib.hid (HTA.out wa HOa.out)
        have HTB1 := Lib.hid (HTB2.out wa HOa.out)
        have HAD1 := Lib.hid (HAD.out wa HOa.out)
        obtain ⟨sv, hsv⟩ : ∃ s, s = fa9 q := ⟨_, rfl⟩
        rw [← hsv] at HVS HNa
        have HSV := Lib.hid hsv
        clear hsv
        have HFL1 := Lib.hid (HFL.out sv)
        have HSL1 := Lib.hid (HSL.out sv)
        have HEQ1 : Hid (∀ x u2 wq, On wa wq → NR wq u2 x → Calls Tryd.prog 30 #[u2, u] wq fun e w' => e = .returned (.bool (decide (x = sv))) ∧ On wa w') := Lib.hid fun x u2 wq h hx => HEQ.out x sv u2 u wa wq h hx (HNa.out.on h)
        have Hwa := Lib.hid (On.refl HOa.out.tab)
        go_wp2_with fail
        go_loopw [10, 11, 12, 13] (fun vf vt vs vk wv => ∃ k : Nat, k ≤ N ∧ vk = .int .i64 (k : Int) ∧ vf = .int .u64 ((fndN S.f fa9 sv k : Nat) : Int) ∧ vt = .bool (thB fb9 sv k) ∧ vs = .int .u64 ((smN S.f fb9 fc9 sv k : Nat) : Int) ∧ Hid (On wa wv)) (fun _ _ _ vk _ => N - (RowKit.intOf vk).toNat)
        case atStart => exact ⟨0, Nat.zero_le _, rfl, rfl, rfl, rfl, Hwa⟩
        case round =>
          rename World => wv
          obtain ⟨k, hk, rfl, rfl, rfl, rfl, HV⟩ := hrel
          by_cases hkt : k < N
          · have hkt' : (k : Int) < (N : Int) := by omega
            have HA2 := Lib.hid (HTA1.out k hkt)
            have HB2 := Lib.hid (HTB1.out k hkt)
            obtain ⟨cb, co, b2, o2, cc, e9, hc0, hc1, hx9⟩ := HCT.out k hkt
            have HE9 := Lib.hid e9
            have HX0 := Lib.hid (fun wq (h : On W0 wq) => cell_on h hc0)
            have HX1 := Lib.hid (fun wq (h : On W0 wq) => cell_on h hc1)
            clear e9 hc0 hc1
            have hf9 : fndN S.f fa9 sv k ≤ 18446744073709551615 := by have h1 := HFL1.out k; have h2 := HP9.out; omega
            have hs9 : smN S.f fb9 fc9 sv k ≤ 18446744073709551615 := by have h1 := HSL1.out k; have h2 := HP9.out; omega
            have HF1 : Hid (fndN S.f fa9 sv (k + 1) = if fa9 k = sv then addF S.f (fndN S.f fa9 sv k) 1 else fndN S.f fa9 sv k) := Lib.hid rfl
            have HS1 : Hid (smN S.f fb9 fc9 sv (k + 1) = if fb9 k = sv then addF S.f (smN S.f fb9 fc9 sv k) (fc9 k) else smN S.f fb9 fc9 sv k) := Lib.hid rfl
            have HH1 : Hid (thB fb9 sv (k + 1) = if fb9 k = sv then true else thB fb9 sv k) := Lib.hid rfl
            have HA3 : Hid (∀ wq, On wa wq → Calls Tryd.prog 25 #[.int .i64 S.f, .int .u64 ((fndN S.f fa9 sv k : Nat) : Int), .int .u64 1] wq fun e w' => e = .returned (.int .u64 ((addF S.f (fndN S.f fa9 sv k) 1 : Nat) : Int)) ∧ On wa w') := Lib.hid (HAD1.out (fndN S.f fa9 sv k) 1 hf9 (by omega))
            have HA4 := Lib.hid (HAD1.out (smN S.f fb9 fc9 sv k) (fc9 k) hs9 hx9)
            have HQ3 := Lib.hid (HEQ1.out (fa9 k))
            have HQ4 := Lib.hid (HEQ1.out (fb9 k))
            clear hf9 hs9
            generalize fndN S.f fa9 sv k = fn at *
            generalize smN S.f fb9 fc9 sv k = sn at *
            generalize thB fb9 sv k = tn at *
            generalize fc9 k = cn at *
            by_cases hea : fa9 k = sv <;> by_cases heb : fb9 k = sv
            · have hda : decide (fa9 k = sv) = true := by simp [hea]
              have hdb : decide (fb9 k = sv) = true := by simp [heb]
              rw [hda] at HQ3
              rw [hdb] at HQ4
              rw [if_pos hea] at HF1
              rw [if_pos heb] at HS1 HH1
              clear hda hdb hea heb
              have hOv := HV.out
              obtain ⟨s0, s1, s2, s3, s4, s5, s6, s7⟩ := HSY.out wv (HOa.out.trans hOv)
              obtain ⟨l0, l1⟩ := HTB.out wv (HOa.out.trans hOv)
              obtain ⟨p0, p1, p3⟩ := HLB.out wv (HOa.out.trans hOv)
              go_upto_region 16 with (first
                | (go_at_call 99; (with_reducible refine (HA2.out _ hOv).mono ?_); rintro e w4 ⟨⟨u4, rfl, hN4⟩, hO4⟩)
                | (go_at_call 30; (with_reducible refine (HQ3.out _ _ hO4 hN4).mono ?_); rintro e w5 ⟨rfl, hO5⟩; clear s0 s1 s2 s3 s4 s5 s6 s7 l0 l1 p0 p1 p3; obtain ⟨s0, s1, s2, s3, s4, s5, s6, s7⟩ := HSY.out w5 (HOa.out.trans hO5); obtain ⟨l0, l1⟩ := HTB.out w5 (HOa.out.trans hO5); obtain ⟨p0, p1, p3⟩ := HLB.out w5 (HOa.out.trans hO5))
                | (go_at_call 25; (with_reducible refine (HA3.out _ hO5).mono ?_); rintro e w6 ⟨rfl, hO6⟩; clear s0 s1 s2 s3 s4 s5 s6 s7 l0 l1 p0 p1 p3; obtain ⟨s0, s1, s2, s3, s4, s5, s6, s7⟩ := HSY.out w6 (HOa.out.trans hO6); obtain ⟨l0, l1⟩ := HTB.out w6 (HOa.out.trans hO6); obtain ⟨p0, p1, p3⟩ := HLB.out w6 (HOa.out.trans hO6))
                | (go_at_call 99; (with_reducible refine (HB2.out _ hO6).mono ?_); rintro e w7 ⟨⟨u7, rfl, hN7⟩, hO7⟩)
                | (go_at_call 30; (with_reducible refine (HQ4.out _ _ hO7 hN7).mono ?_); rintro e w8 ⟨rfl, hO8⟩)
                | fail)
              clear s0 s1 s2 s3 s4 s5 s6 s7 l0 l1 p0 p1 p3
              have HO8 := Lib.hid hO8
              obtain ⟨V0, hV0⟩ : ∃ V0, V0 = w8.drew := ⟨_, rfl⟩
              have hS0 : On wa V0 := by rw [hV0]; exact HO8.out.drew
              refine region_head_tail (S := fun wx => On wa wx) 14 (by kernel_rfl) (by kernel_rfl) ?_
              rw [← hV0]
              clear hV0
              have hix' : (ix : Int) < (M : Int) := by omega
              rw [HE9.out] at HTB
              refine HeadG.take (i := 0) (v := ?z1v0) rfl (by kernel_rfl) (by kernel_rfl) (by kernel_rfl) (by kernel_rfl) (by kernel_rfl) (by kernel_rfl) (by kernel_rfl) (fun _ _ _ h => h) (Or.inl ⟨by rfl, ?z1y0⟩) hS0 ?z1r0
              case z1y0 => (intro wq hwq; go_simp; try with_reducible rfl)
              try simp only [Act.put, List.setIfInBounds_toArray, List.set_cons_zero, List.set_cons_succ, List.getElem_toArray, List.getElem_cons_zero, List.getElem_cons_succ]
              refine HeadG.take (i := 1) (v := .int .i64 S.f) rfl (by kernel_rfl) (by kernel_rfl) (by kernel_rfl) (by kernel_rfl) (by kernel_rfl) (by kernel_rfl) (by kernel_rfl) (fun _ _ _ h => h) (Or.inl ⟨by rfl, ?z1y1⟩) hS0 ?z1r1
              case z1y1 => (intro wq hwq; obtain ⟨s0, s1, s2, s3, s4, s5, s6, s7⟩ := HSY.out wq (HOa.out.trans hwq); go_simp; try with_reducible rfl)
              try simp only [Act.put, List.setIfInBounds_toArray, List.set_cons_zero, List.set_cons_succ, List.getElem_toArray, List.getElem_cons_zero, List.getElem_cons_succ]
              refine HeadG.take (i := 2) (v := ?z1v2) rfl (by kernel_rfl) (by kernel_rfl) (by kernel_rfl) (by kernel_rfl) (by kernel_rfl) (by kernel_rfl) (by kernel_rfl) (fun _ _ _ h => h) (Or.inl ⟨by rfl, ?z1y2⟩) hS0 ?z1r2
              case z1y2 => (intro wq hwq; go_simp; try with_reducible rfl)
              try simp only [Act.put, List.setIfInBounds_toArray, List.set_cons_zero, List.set_cons_succ, List.getElem_toArray, List.getElem_cons_zero, List.getElem_cons_succ]
              refine HeadG.take (i := 3) (v := ?z1v3) rfl (by kernel_rfl) (by kernel_rfl) (by kernel_rfl) (by kernel_rfl) (by kernel_rfl) (by kernel_rfl) (by kernel_rfl) (fun _ _ _ h => h) (Or.inl ⟨by rfl, ?z1y3⟩) hS0 ?z1r3
              case z1y3 => (intro wq hwq; go_simp; try with_reducible rfl)
              try simp only [Act.put, List.setIfInBounds_toArray, List.set_cons_zero, List.set_cons_succ, List.getElem_toArray, List.getElem_cons_zero, List.getElem_cons_succ]
              refine HeadG.take (i := 4) (v := .slice (some ⟨cb, co, none⟩) M mc) rfl (by kernel_rfl) (by kernel_rfl) (by kernel_rfl) (by kernel_rfl) (by kernel_rfl) (by kernel_rfl) (by kernel_rfl) (fun _ _ _ h => h) (Or.inl ⟨by rfl, ?z1y4⟩) hS0 ?z1r4
              case z1y4 => (intro wq hwq; obtain ⟨l0, l1⟩ := HTB.out wq (HOa.out.trans hwq); go_simp; try with_reducible rfl)
              try simp only [Act.put, List.setIfInBounds_toArray, List.set_cons_zero, List.set_cons_succ, List.getElem_toArray, List.getElem_cons_zero, List.getElem_cons_succ]
              refine HeadG.take (i := 5) (v := ?z1v5) rfl (by kernel_rfl) (by kernel_rfl) (by kernel_rfl) (by kernel_rfl) (by kernel_rfl) (by kernel_rfl) (by kernel_rfl) (fun _ _ _ h => h) (Or.inl ⟨by rfl, ?z1y5⟩) hS0 ?z1r5
              case z1y5 => (intro wq hwq; go_simp; try with_reducible rfl)
              try simp only [Act.put, List.setIfInBounds_toArray, List.set_cons_zero, List.set_cons_succ, List.getElem_toArray, List.getElem_cons_zero, List.getElem_cons_succ]
              refine HeadG.take (i := 6) (v := ?z1v6) rfl (by kernel_rfl) (by kernel_rfl) (by kernel_rfl) (by kernel_rfl) (by kernel_rfl) (by kernel_rfl) (by kernel_rfl) (fun _ _ _ h => h) (Or.inl ⟨by rfl, ?z1y6⟩) hS0 ?z1r6
              case z1y6 => (intro wq hwq; go_simp; try with_reducible rfl)
              try simp only [Act.put, List.setIfInBounds_toArray, List.set_cons_zero, List.set_cons_succ, List.getElem_toArray, List.getElem_cons_zero, List.getElem_cons_succ]
              refine HeadG.take (i := 7) (v := .int .i64 (ix : Int)) rfl (by kernel_rfl) (by kernel_rfl) (by kernel_rfl) (by kernel_rfl) (by kernel_rfl) (by kernel_rfl) (by kernel_rfl) (fun _ _ _ h => h) (Or.inl ⟨by rfl, ?z1y7⟩) hS0 ?z1r7
              case z1y7 => (intro wq hwq; obtain ⟨p0, p1, p3⟩ := HLB.out wq (HOa.out.trans hwq); go_simp; try with_reducible rfl)
              try simp only [Act.put, List.setIfInBounds_toArray, List.set_cons_zero, List.set_cons_succ, List.getElem_toArray, List.getElem_cons_zero, List.getElem_cons_succ]
              refine HeadG.take (i := 8) (v := .pointer (some ⟨cb, co + ix, none⟩)) rfl (by kernel_rfl) (by kernel_rfl) (by kernel_rfl) (by kernel_rfl) (by kernel_rfl) (by kernel_rfl) (by kernel_rfl) (fun _ _ _ h => h) (Or.inl ⟨by rfl, ?z1y8⟩) hS0 ?z1r8
              case z1y8 => (intro wq hwq; go_simp; try with_reducible rfl)
              try simp only [Act.put, List.setIfInBounds_toArray, List.set_cons_zero, List.set_cons_succ, List.getElem_toArray, List.getElem_cons_zero, List.getElem_cons_succ]
              refine HeadG.take (i := 9) (v := .slice (some ⟨b2, o2, none⟩) N cc) rfl (by kernel_rfl) (by kernel_rfl) (by kernel_rfl) (by kernel_rfl) (by kernel_rfl) (by kernel_rfl) (by kernel_rfl) (fun _ _ _ h => h) (Or.inl ⟨by rfl, ?z1y9⟩) hS0 ?z1r9
              case z1y9 => (intro wq hwq; have x0 := HX0.out wq (HOa.out.trans hwq); go_simp; try with_reducible rfl)
              try simp only [Act.put, List.setIfInBounds_toArray, List.set_cons_zero, List.set_cons_succ, List.getElem_toArray, List.getElem_cons_zero, List.getElem_cons_succ]
              refine HeadG.take (i := 10) (v := ?z1v10) rfl (by kernel_rfl) (by kernel_rfl) (by kernel_rfl) (by kernel_rfl) (by kernel_rfl) (by kernel_rfl) (by kernel_rfl) (fun _ _ _ h => h) (Or.inl ⟨by rfl, ?z1y10⟩) hS0 ?z1r10
              case z1y10 => (intro wq hwq; go_simp; try with_reducible rfl)
              try simp only [Act.put, List.setIfInBounds_toArray, List.set_cons_zero, List.set_cons_succ, List.getElem_toArray, List.getElem_cons_zero, List.getElem_cons_succ]
              refine HeadG.take (i := 11) (v := .pointer (some ⟨b2, o2 + k, none⟩)) rfl (by kernel_rfl) (by kernel_rfl) (by kernel_rfl) (by kernel_rfl) (by kernel_rfl) (by kernel_rfl) (by kernel_rfl) (fun _ _ _ h => h) (Or.inl ⟨by rfl, ?z1y11⟩) hS0 ?z1r11
              case z1y11 => (intro wq hwq; go_simp; try with_reducible rfl)
              try simp only [Act.put, List.setIfInBounds_toArray, List.set_cons_zero, List.set_cons_succ, List.getElem_toArray, List.getElem_cons_zero, List.getElem_cons_succ]
              refine HeadG.take (i := 12) (v := .int .u64 (cn : Int)) rfl (by kernel_rfl) (by kernel_rfl) (by kernel_rfl) (by kernel_rfl) (by kernel_rfl) (by kernel_rfl) (by kernel_rfl) (fun _ _ _ h => h) (Or.inl ⟨by rfl, ?z1y12⟩) hS0 ?z1r12
              case z1y12 => (intro wq hwq; have x0 := HX1.out wq (HOa.out.trans hwq); go_simp; try with_reducible rfl)
              try simp only [Act.put, List.setIfInBounds_toArray, List.set_cons_zero, List.set_cons_succ, List.getElem_toArray, List.getElem_cons_zero, List.getElem_cons_succ]
              refine HeadG.one (i := 13) rfl (by kernel_rfl) (by kernel_rfl) (fun K9 hK9 => ?_)
              go_simp
              go_at_call 25
              (with_reducible refine (HA4.out _ hS0).mono ?_)
              rintro e w9 ⟨rfl, hO9⟩
              refine hK9.out _ _ hO9 ?_
              clear hK9 K9
              try simp only [Act.put, List.setIfInBounds_toArray, List.set_cons_zero, List.set_cons_succ, List.getElem_toArray, List.getElem_cons_zero, List.getElem_cons_succ]
              refine HeadG.last (i := 14) rfl (by kernel_rfl) (by kernel_rfl) (by kernel_rfl) (fun K9 hK9 => ?_)
              go_simp
              refine hK9.out _ _ ?_
              clear hK9 K9
              try simp only [Act.put, List.setIfInBounds_toArray, List.set_cons_zero, List.set_cons_succ, List.getElem_toArray, List.getElem_cons_zero, List.getElem_cons_succ]
              go_wp2
              go_roundw
              case rel => exact ⟨k + 1, by omega, by simp, by rw [HF1.out], by rw [HH1.out], by rw [HS1.out], Lib.hid hO9⟩
              case measure => simp [RowKit.intOf]; omega
            · have hda : decide (fa9 k = sv) = true := by simp [hea]
              have hdb : decide (fb9 k = sv) = false := by simp [heb]
              rw [hda] at HQ3
              rw [hdb] at HQ4
              rw [if_pos hea] at HF1
              rw [if_neg heb] at HS1 HH1
              clear hda hdb hea heb
              have hOv := HV.out
              obtain ⟨s0, s1, s2, s3, s4, s5, s6, s7⟩ := HSY.out wv (HOa.out.trans hOv)
              obtain ⟨l0, l1⟩ := HTB.out wv (HOa.out.trans hOv)
              obtain ⟨p0, p1, p3⟩ := HLB.out wv (HOa.out.trans hOv)
              go_wp2_with (first
                | (go_at_call 99; (with_reducible refine (HA2.out _ hOv).mono ?_); rintro e w4 ⟨⟨u4, rfl, hN4⟩, hO4⟩)
                | (go_at_call 30; (with_reducible refine (HQ3.out _ _ hO4 hN4).mono ?_); rintro e w5 ⟨rfl, hO5⟩; clear s0 s1 s2 s3 s4 s5 s6 s7 l0 l1 p0 p1 p3; obtain ⟨s0, s1, s2, s3, s4, s5, s6, s7⟩ := HSY.out w5 (HOa.out.trans hO5); obtain ⟨l0, l1⟩ := HTB.out w5 (HOa.out.trans hO5); obtain ⟨p0, p1, p3⟩ := HLB.out w5 (HOa.out.trans hO5))
                | (go_at_call 25; (with_reducible refine (HA3.out _ hO5).mono ?_); rintro e w6 ⟨rfl, hO6⟩; clear s0 s1 s2 s3 s4 s5 s6 s7 l0 l1 p0 p1 p3; obtain ⟨s0, s1, s2, s3, s4, s5, s6, s7⟩ := HSY.out w6 (HOa.out.trans hO6); obtain ⟨l0, l1⟩ := HTB.out w6 (HOa.out.trans hO6); obtain ⟨p0, p1, p3⟩ := HLB.out w6 (HOa.out.trans hO6))
                | (go_at_call 99; (with_reducible refine (HB2.out _ hO6).mono ?_); rintro e w7 ⟨⟨u7, rfl, hN7⟩, hO7⟩)
                | (go_at_call 30; (with_reducible refine (HQ4.out _ _ hO7 hN7).mono ?_); rintro e w8 ⟨rfl, hO8⟩)
                | fail)
              clear s0 s1 s2 s3 s4 s5 s6 s7 l0 l1 p0 p1 p3
              go_roundw
              case rel => exact ⟨k + 1, by omega, by simp, by rw [HF1.out], by rw [HH1.out], by rw [HS1.out], Lib.hid hO8⟩
              case measure => simp [RowKit.intOf]; omega
            · have hda : decide (fa9 k = sv) = false := by simp [hea]
              have hdb : decide (fb9 k = sv) = true := by simp [heb]
              rw [hda] at HQ3
              rw [hdb] at HQ4
              rw [if_neg hea] at HF1
              rw [if_pos heb] at HS1 HH1
              clear hda hdb hea heb
              have hOv := HV.out
              obtain ⟨s0, s1, s2, s3, s4, s5, s6, s7⟩ := HSY.out wv (HOa.out.trans hOv)
              obtain ⟨l0, l1⟩ := HTB.out wv (HOa.out.trans hOv)
              obtain ⟨p0, p1, p3⟩ := HLB.out wv (HOa.out.trans hOv)
              go_upto_region 16 with (first
                | (go_at_call 99; (with_reducible refine (HA2.out _ hOv).mono ?_); rintro e w4 ⟨⟨u4, rfl, hN4⟩, hO4⟩)
                | (go_at_call 30; (with_reducible refine (HQ3.out _ _ hO4 hN4).mono ?_); rintro e w5 ⟨rfl, hO5⟩; clear s0 s1 s2 s3 s4 s5 s6 s7 l0 l1 p0 p1 p3; obtain ⟨s0, s1, s2, s3, s4, s5, s6, s7⟩ := HSY.out w5 (HOa.out.trans hO5); obtain ⟨l0, l1⟩ := HTB.out w5 (HOa.out.trans hO5); obtain ⟨p0, p1, p3⟩ := HLB.out w5 (HOa.out.trans hO5))
                | (go_at_call 25; (with_reducible refine (HA3.out _ hO5).mono ?_); rintro e w6 ⟨rfl, hO6⟩; clear s0 s1 s2 s3 s4 s5 s6 s7 l0 l1 p0 p1 p3; obtain ⟨s0, s1, s2, s3, s4, s5, s6, s7⟩ := HSY.out w6 (HOa.out.trans hO6); obtain ⟨l0, l1⟩ := HTB.out w6 (HOa.out.trans hO6); obtain ⟨p0, p1, p3⟩ := HLB.out w6 (HOa.out.trans hO6))
                | (go_at_call 99; (with_reducible refine (HB2.out _ hO5).mono ?_); rintro e w7 ⟨⟨u7, rfl, hN7⟩, hO7⟩)
                | (go_at_call 30; (with_reducible refine (HQ4.out _ _ hO7 hN7).mono ?_); rintro e w8 ⟨rfl, hO8⟩)
                | fail)
              clear s0 s1 s2 s3 s4 s5 s6 s7 l0 l1 p0 p1 p3
              have HO8 := Lib.hid hO8
              obtain ⟨V0, hV0⟩ : ∃ V0, V0 = w8.drew := ⟨_, rfl⟩
              have hS0 : On wa V0 := by rw [hV0]; exact HO8.out.drew
              refine region_head_tail (S := fun wx => On wa wx) 14 (by kernel_rfl) (by kernel_rfl) ?_
              rw [← hV0]
              clear hV0
              have hix' : (ix : Int) < (M : Int) := by omega
              rw [HE9.out] at HTB
              refine HeadG.take (i := 0) (v := ?z2v0) rfl (by kernel_rfl) (by kernel_rfl) (by kernel_rfl) (by kernel_rfl) (by kernel_rfl) (by kernel_rfl) (by kernel_rfl) (fun _ _ _ h => h) (Or.inl ⟨by rfl, ?z2y0⟩) hS0 ?z2r0
              case z2y0 => (intro wq hwq; go_simp; try with_reducible rfl)
              try simp only [Act.put, List.setIfInBounds_toArray, List.set_cons_zero, List.set_cons_succ, List.getElem_toArray, List.getElem_cons_zero, List.getElem_cons_succ]
              refine HeadG.take (i := 1) (v := .int .i64 S.f) rfl (by kernel_rfl) (by kernel_rfl) (by kernel_rfl) (by kernel_rfl) (by kernel_rfl) (by kernel_rfl) (by kernel_rfl) (fun _ _ _ h => h) (Or.inl ⟨by rfl, ?z2y1⟩) hS0 ?z2r1
              case z2y1 => (intro wq hwq; obtain ⟨s0, s1, s2, s3, s4, s5, s6, s7⟩ := HSY.out wq (HOa.out.trans hwq); go_simp; try with_reducible rfl)
              try simp only [Act.put, List.setIfInBounds_toArray, List.set_cons_zero, List.set_cons_succ, List.getElem_toArray, List.getElem_cons_zero, List.getElem_cons_succ]
              refine HeadG.take (i := 2) (v := ?z2v2) rfl (by kernel_rfl) (by kernel_rfl) (by kernel_rfl) (by kernel_rfl) (by kernel_rfl) (by kernel_rfl) (by kernel_rfl) (fun _ _ _ h => h) (Or.inl ⟨by rfl, ?z2y2⟩) hS0 ?z2r2
              case z2y2 => (intro wq hwq; go_simp; try with_reducible rfl)
              try simp only [Act.put, List.setIfInBounds_toArray, List.set_cons_zero, List.set_cons_succ, List.getElem_toArray, List.getElem_cons_zero, List.getElem_cons_succ]
              refine HeadG.take (i := 3) (v := ?z2v3) rfl (by kernel_rfl) (by kernel_rfl) (by kernel_rfl) (by kernel_rfl) (by kernel_rfl) (by kernel_rfl) (by kernel_rfl) (fun _ _ _ h => h) (Or.inl ⟨by rfl, ?z2y3⟩) hS0 ?z2r3
              case z2y3 => (intro wq hwq; go_simp; try with_reducible rfl)
              try simp only [Act.put, List.setIfInBounds_toArray, List.set_cons_zero, List.set_cons_succ, List.getElem_toArray, List.getElem_cons_zero, List.getElem_cons_succ]
              refine HeadG.take (i := 4) (v := .slice (some ⟨cb, co, none⟩) M mc) rfl (by kernel_rfl) (by kernel_rfl) (by kernel_rfl) (by kernel_rfl) (by kernel_rfl) (by kernel_rfl) (by kernel_rfl) (fun _ _ _ h => h) (Or.inl ⟨by rfl, ?z2y4⟩) hS0 ?z2r4
              case z2y4 => (intro wq hwq; obtain ⟨l0, l1⟩ := HTB.out wq (HOa.out.trans hwq); go_simp; try with_reducible rfl)
              try simp only [Act.put, List.setIfInBounds_toArray, List.set_cons_zero, List.set_cons_succ, List.getElem_toArray, List.getElem_cons_zero, List.getElem_cons_succ]
              refine HeadG.take (i := 5) (v := ?z2v5) rfl (by kernel_rfl) (by kernel_rfl) (by kernel_rfl) (by kernel_rfl) (by kernel_rfl) (by kernel_rfl) (by kernel_rfl) (fun _ _ _ h => h) (Or.inl ⟨by rfl, ?z2y5⟩) hS0 ?z2r5
              case z2y5 => (intro wq hwq; go_simp; try with_reducible rfl)
              try simp only [Act.put, List.setIfInBounds_toArray, List.set_cons_zero, List.set_cons_succ, List.getElem_toArray, List.getElem_cons_zero, List.getElem_cons_succ]
              refine HeadG.take (i := 6) (v := ?z2v6) rfl (by kernel_rfl) (by kernel_rfl) (by kernel_rfl) (by kernel_rfl) (by kernel_rfl) (by kernel_rfl) (by kernel_rfl) (fun _ _ _ h => h) (Or.inl ⟨by rfl, ?z2y6⟩) hS0 ?z2r6
              case z2y6 => (intro wq hwq; go_simp; try with_reducible rfl)
              try simp only [Act.put, List.setIfInBounds_toArray, List.set_cons_zero, List.set_cons_succ, List.getElem_toArray, List.getElem_cons_zero, List.getElem_cons_succ]
              refine HeadG.take (i := 7) (v := .int .i64 (ix : Int)) rfl (by kernel_rfl) (by kernel_rfl) (by kernel_rfl) (by kernel_rfl) (by kernel_rfl) (by kernel_rfl) (by kernel_rfl) (fun _ _ _ h => h) (Or.inl ⟨by rfl, ?z2y7⟩) hS0 ?z2r7
              case z2y7 => (intro wq hwq; obtain ⟨p0, p1, p3⟩ := HLB.out wq (HOa.out.trans hwq); go_simp; try with_reducible rfl)
              try simp only [Act.put, List.setIfInBounds_toArray, List.set_cons_zero, List.set_cons_succ, List.getElem_toArray, List.getElem_cons_zero, List.getElem_cons_succ]
              refine HeadG.take (i := 8) (v := .pointer (some ⟨cb, co + ix, none⟩)) rfl (by kernel_rfl) (by kernel_rfl) (by kernel_rfl) (by kernel_rfl) (by kernel_rfl) (by kernel_rfl) (by kernel_rfl) (fun _ _ _ h => h) (Or.inl ⟨by rfl, ?z2y8⟩) hS0 ?z2r8
              case z2y8 => (intro wq hwq; go_simp; try with_reducible rfl)
              try simp only [Act.put, List.setIfInBounds_toArray, List.set_cons_zero, List.set_cons_succ, List.getElem_toArray, List.getElem_cons_zero, List.getElem_cons_succ]
              refine HeadG.take (i := 9) (v := .slice (some ⟨b2, o2, none⟩) N cc) rfl (by kernel_rfl) (by kernel_rfl) (by kernel_rfl) (by kernel_rfl) (by kernel_rfl) (by kernel_rfl) (by kernel_rfl) (fun _ _ _ h => h) (Or.inl ⟨by rfl, ?z2y9⟩) hS0 ?z2r9
              case z2y9 => (intro wq hwq; have x0 := HX0.out wq (HOa.out.trans hwq); go_simp; try with_reducible rfl)
              try simp only [Act.put, List.setIfInBounds_toArray, List.set_cons_zero, List.set_cons_succ, List.getElem_toArray, List.getElem_cons_zero, List.getElem_cons_succ]
              refine HeadG.take (i := 10) (v := ?z2v10) rfl (by kernel_rfl) (by kernel_rfl) (by kernel_rfl) (by kernel_rfl) (by kernel_rfl) (by kernel_rfl) (by kernel_rfl) (fun _ _ _ h => h) (Or.inl ⟨by rfl, ?z2y10⟩) hS0 ?z2r10
              case z2y10 => (intro wq hwq; go_simp; try with_reducible rfl)
              try simp only [Act.put, List.setIfInBounds_toArray, List.set_cons_zero, List.set_cons_succ, List.getElem_toArray, List.getElem_cons_zero, List.getElem_cons_succ]
              refine HeadG.take (i := 11) (v := .pointer (some ⟨b2, o2 + k, none⟩)) rfl (by kernel_rfl) (by kernel_rfl) (by kernel_rfl) (by kernel_rfl) (by kernel_rfl) (by kernel_rfl) (by kernel_rfl) (fun _ _ _ h => h) (Or.inl ⟨by rfl, ?z2y11⟩) hS0 ?z2r11
              case z2y11 => (intro wq hwq; go_simp; try with_reducible rfl)
              try simp only [Act.put, List.setIfInBounds_toArray, List.set_cons_zero, List.set_cons_succ, List.getElem_toArray, List.getElem_cons_zero, List.getElem_cons_succ]
              refine HeadG.take (i := 12) (v := .int .u64 (cn : Int)) rfl (by kernel_rfl) (by kernel_rfl) (by kernel_rfl) (by kernel_rfl) (by kernel_rfl) (by kernel_rfl) (by kernel_rfl) (fun _ _ _ h => h) (Or.inl ⟨by rfl, ?z2y12⟩) hS0 ?z2r12
              case z2y12 => (intro wq hwq; have x0 := HX1.out wq (HOa.out.trans hwq); go_simp; try with_reducible rfl)
              try simp only [Act.put, List.setIfInBounds_toArray, List.set_cons_zero, List.set_cons_succ, List.getElem_toArray, List.getElem_cons_zero, List.getElem_cons_succ]
              refine HeadG.one (i := 13) rfl (by kernel_rfl) (by kernel_rfl) (fun K9 hK9 => ?_)
              go_simp
              go_at_call 25
              (with_reducible refine (HA4.out _ hS0).mono ?_)
              rintro e w9 ⟨rfl, hO9⟩
              refine hK9.out _ _ hO9 ?_
              clear hK9 K9
              try simp only [Act.put, List.setIfInBounds_toArray, List.set_cons_zero, List.set_cons_succ, List.getElem_toArray, List.getElem_cons_zero, List.getElem_cons_succ]
              refine HeadG.last (i := 14) rfl (by kernel_rfl) (by kernel_rfl) (by kernel_rfl) (fun K9 hK9 => ?_)
              go_simp
              refine hK9.out _ _ ?_
              clear hK9 K9
              try simp only [Act.put, List.setIfInBounds_toArray, List.set_cons_zero, List.set_cons_succ, List.getElem_toArray, List.getElem_cons_zero, List.getElem_cons_succ]
              go_wp2
              go_roundw
              case rel => exact ⟨k + 1, by omega, by simp, by rw [HF1.out], by rw [HH1.out], by rw [HS1.out], Lib.hid hO9⟩
              case measure => simp [RowKit.intOf]; omega
            · have hda : decide (fa9 k = sv) = false := by simp [hea]
              have hdb : decide (fb9 k = sv) = false := by simp [heb]
              rw [hda] at HQ3
              rw [hdb] at HQ4
              rw [if_neg hea] at HF1
              rw [if_neg heb] at HS1 HH1
              clear hda hdb hea heb
              have hOv := HV.out
              obtain ⟨s0, s1, s2, s3, s4, s5, s6, s7⟩ := HSY.out wv (HOa.out.trans hOv)
              obtain ⟨l0, l1⟩ := HTB.out wv (HOa.out.trans hOv)
              obtain ⟨p0, p1, p3⟩ := HLB.out wv (HOa.out.trans hOv)
              go_wp2_with (first
                | (go_at_call 99; (with_reducible refine (HA2.out _ hOv).mono ?_); rintro e w4 ⟨⟨u4, rfl, hN4⟩, hO4⟩)
                | (go_at_call 30; (with_reducible refine (HQ3.out _ _ hO4 hN4).mono ?_); rintro e w5 ⟨rfl, hO5⟩; clear s0 s1 s2 s3 s4 s5 s6 s7 l0 l1 p0 p1 p3; obtain ⟨s0, s1, s2, s3, s4, s5, s6, s7⟩ := HSY.out w5 (HOa.out.trans hO5); obtain ⟨l0, l1⟩ := HTB.out w5 (HOa.out.trans hO5); obtain ⟨p0, p1, p3⟩ := HLB.out w5 (HOa.out.trans hO5))
                | (go_at_call 25; (with_reducible refine (HA3.out _ hO5).mono ?_); rintro e w6 ⟨rfl, hO6⟩; clear s0 s1 s2 s3 s4 s5 s6 s7 l0 l1 p0 p1 p3; obtain ⟨s0, s1, s2, s3, s4, s5, s6, s7⟩ := HSY.out w6 (HOa.out.trans hO6); obtain ⟨l0, l1⟩ := HTB.out w6 (HOa.out.trans hO6); obtain ⟨p0, p1, p3⟩ := HLB.out w6 (HOa.out.trans hO6))
                | (go_at_call 99; (with_reducible refine (HB2.out _ hO5).mono ?_); rintro e w7 ⟨⟨u7, rfl, hN7⟩, hO7⟩)
                | (go_at_call 30; (with_reducible refine (HQ4.out _ _ hO7 hN7).mono ?_); rintro e w8 ⟨rfl, hO8⟩)
                | fail)
              clear s0 s1 s2 s3 s4 s5 s6 s7 l0 l1 p0 p1 p3
              go_roundw
              case rel => exact ⟨k + 1, by omega, by simp, by rw [HF1.out], by rw [HH1.out], by rw [HS1.out], Lib.hid hO8⟩
              case measure => simp [RowKit.intOf]; omega
          · obtain rfl : N = k := by omega
            clear HTA1 HTB1 HAD1 HEQ1 hkt
            obtain ⟨fn, hfn⟩ : ∃ x, x = fndN S.f fa9 sv N := ⟨_, rfl⟩
            obtain ⟨sn, hsn⟩ : ∃ x, x = smN S.f fb9 fc9 sv N := ⟨_, rfl⟩
            obtain ⟨tn, htn⟩ : ∃ x, x = thB fb9 sv N := ⟨_, rfl⟩
            rw [← hfn, ← hsn, ← htn] at HVS
            rw [← hfn, ← hsn, ← htn]
            clear hfn hsn htn HFL1 HSL1
            by_cases hfs : fn = sn
            · have hne : (((fn : Nat) : Int) != ((sn : Nat) : Int)) = false := by simp [hfs]
              cases tn with
              | true =>
                have HCB2 : Hid (cntB S.f fa9 fb9 fc9 N (r + 1) = true) := Lib.hid (by rw [HCS.out, HVS.out, hfs]; simp)
                have HV2 := Lib.hid (HOa.out.trans HV.out)
                clear hfs
                go_wp2
                go_roundw
                case rel => exact ⟨r + 1, by omega, by simp, HCB2, HV2⟩
                case measure => simp [RowKit.intOf]; omega
              | false =>
                have HR9 := Lib.hid (HCN.out (by rw [HVS.out]; simp))
                have HV2 := Lib.hid (HOa.out.trans HV.out)
                clear hfs
                go_wp2
                go_ret
                exact ⟨by rw [HR9.out]; rfl, HO0.out.trans HV2.out⟩
            · have hne : (((fn : Nat) : Int) != ((sn : Nat) : Int)) = true := by simp; omega
              have HR9 := Lib.hid (HCN.out (by rw [HVS.out]; simp [hfs]))
              have HV2 := Lib.hid (HOa.out.trans HV.out)
              clear hfs
              go_wp2
              go_ret
              exact ⟨by rw [HR9.out]; rfl, HO0.out.trans HV2.out⟩
      · have hrn' : (r : Int) ≥ (N : Int) := by omega
        have hrn2 : (N : Int) ≤ (r : Int) := by omega
        rw [if_neg hrn] at HVR
        clear hrn
        have HT2 := Lib.hid (HTB2.out wa HOa.out q hqN)
        go_upto_region 7 with fail
        obtain ⟨V0, hV0⟩ : ∃ V0, V0 = wa.drew := ⟨_, rfl⟩
        have hS0 : On wa V0 := by rw [hV0]; exact (On.refl HOa.out.tab).drew
        refine region_head_tail (S := fun wx => On wa wx) 8 (by kernel_rfl) (by kernel_rfl) ?_
        rw [← hV0]
        clear hV0
        refine HeadG.take (i := 0) (v := syA S H) rfl (by kernel_rfl) (by kernel_rfl) (by kernel_rfl) (by kernel_rfl) (by kernel_rfl) (by kernel_rfl) (by kernel_rfl) (fun _ _ _ h => h) (Or.inl ⟨by rfl, ?tby0⟩) hS0 ?tbr0
        case tby0 => (intro wq hwq; obtain ⟨s0, s1, s2, s3, s4, s5, s6, s7⟩ := HSY.out wq (HOa.out.trans hwq); go_simp; try with_reducible rfl)
        try simp only [Act.put, List.setIfInBounds_toArray, List.set_cons_zero, List.set_cons_succ, List.getElem_toArray, List.getElem_cons_zero, List.getElem_cons_succ]
        refine HeadG.take (i := 1) (v := .agg #[.slice pa T.pub.length pc, .slice ma M mc]) rfl (by kernel_rfl) (by kernel_rfl) (by kernel_rfl) (by kernel_rfl) (by kernel_rfl) (by kernel_rfl) (by kernel_rfl) (fun _ _ _ h => h) (Or.inl ⟨by rfl, ?tby1⟩) hS0 ?tbr1
        case tby1 => (intro wq hwq; obtain ⟨l0, l1⟩ := HTB.out wq (HOa.out.trans hwq); go_simp; try with_reducible rfl)
        try simp only [Act.put, List.setIfInBounds_toArray, List.set_cons_zero, List.set_cons_succ, List.getElem_toArray, List.getElem_cons_zero, List.getElem_cons_succ]
        refine HeadG.take (i := 2) (v := ?tbv2) rfl (by kernel_rfl) (by kernel_rfl) (by kernel_rfl) (by kernel_rfl) (by kernel_rfl) (by kernel_rfl) (by kernel_rfl) (fun _ _ _ h => h) (Or.inl ⟨by rfl, ?tby2⟩) hS0 ?tbr2
        case tby2 => (intro wq hwq; go_simp; try with_reducible rfl)
        try simp only [Act.put, List.setIfInBounds_toArray, List.set_cons_zero, List.set_cons_succ, List.getElem_toArray, List.getElem_cons_zero, List.getElem_cons_succ]
        refine HeadG.take (i := 3) (v := ?tbv3) rfl (by kernel_rfl) (by kernel_rfl) (by kernel_rfl) (by kernel_rfl) (by kernel_rfl) (by kernel_rfl) (by kernel_rfl) (fun _ _ _ h => h) (Or.inl ⟨by rfl, ?tby3⟩) hS0 ?tbr3
        case tby3 => (intro wq hwq; go_simp; try with_reducible rfl)
        try simp only [Act.put, List.setIfInBounds_toArray, List.set_cons_zero, List.set_cons_succ, List.getElem_toArray, List.getElem_cons_zero, List.getElem_cons_succ]
        refine HeadG.take (i := 4) (v := .int .i64 (q : Int)) rfl (by kernel_rfl) (by kernel_rfl) (by kernel_rfl) (by kernel_rfl) (by kernel_rfl) (by kernel_rfl) (by kernel_rfl) (fun _ _ _ h => h) (Or.inl ⟨by rfl, ?tby4⟩) hS0 ?tbr4
        case tby4 => (intro wq hwq; have h9 := HQM.out; go_simp; try rw [h9])
        try simp only [Act.put, List.setIfInBounds_toArray, List.set_cons_zero, List.set_cons_succ, List.getElem_toArray, List.getElem_cons_zero, List.getElem_cons_succ]
        refine HeadG.take (i := 5) (v := ?tbv5) rfl (by kernel_rfl) (by kernel_rfl) (by kernel_rfl) (by kernel_rfl) (by kernel_rfl) (by kernel_rfl) (by kernel_rfl) (fun _ _ _ h => h) (Or.inl ⟨by rfl, ?tby5⟩) hS0 ?tbr5
        case tby5 => (intro wq hwq; go_simp; try with_reducible rfl)
        try simp only [Act.put, List.setIfInBounds_toArray, List.set_cons_zero, List.set_cons_succ, List.getElem_toArray, List.getElem_cons_zero, List.getElem_cons_succ]
        refine HeadG.take (i := 6) (v := .slice va vn vc) rfl (by kernel_rfl) (by kernel_rfl) (by kernel_rfl) (by kernel_rfl) (by kernel_rfl) (by kernel_rfl) (by kernel_rfl) (fun _ _ _ h => h) (Or.inl ⟨by rfl, ?tby6⟩) hS0 ?tbr6
        case tby6 => (intro wq hwq; obtain ⟨p0, p1, p3⟩ := HLB.out wq (HOa.out.trans hwq); go_simp; try with_reducible rfl)
        try simp only [Act.put, List.setIfInBounds_toArray, List.set_cons_zero, List.set_cons_succ, List.getElem_toArray, List.getElem_cons_zero, List.getElem_cons_succ]
        refine HeadG.one (i := 7) rfl (by kernel_rfl) (by kernel_rfl) (fun K9 hK9 => ?_)
        go_simp
        go_at_call 99
        (with_reducible refine (HT2.out _ hS0).mono ?_)
        rintro e wb ⟨⟨uB, rfl, hNu⟩, hOb⟩
        refine hK9.out _ _ hOb ?_
        clear hK9 K9
        try simp only [Act.put, List.setIfInBounds_toArray, List.set_cons_zero, List.set_cons_succ, List.getElem_toArray, List.getElem_cons_zero, List.getElem_cons_succ]
        refine HeadG.last (i := 8) rfl (by kernel_rfl) (by kernel_rfl) (by kernel_rfl) (fun K9 hK9 => ?_)
        go_simp
        refine hK9.out _ _ ?_
        clear hK9 K9
        try simp only [Act.put, List.setIfInBounds_toArray, List.set_cons_zero, List.set_cons_succ, List.getElem_toArray, List.getElem_cons_zero, List.getElem_cons_succ]
        have HNb := Lib.hid hNu
        have HOb := Lib.hid (HOa.out.trans hOb)
        clear hNu hOb HT2
        have HVS : Hid (okC S.f fa9 fb9 fc9 N r = (decide (fndN S.f fa9 (fb9 q) N = smN S.f fb9 fc9 (fb9 q) N) && thB fb9 (fb9 q) N)) := Lib.hid (by unfold okC; rw [HVR.out])
        have HTA1 := Lib.hid (HTA.out wb HOb.out)
        have HTB1 := Lib.hid (HTB2.out wb HOb.out)
        have HAD1 := Lib.hid (HAD.out wb HOb.out)
        obtain ⟨sv, hsv⟩ : ∃ s, s = fb9 q := ⟨_, rfl⟩
        rw [← hsv] at HVS HNb
        have HSV := Lib.hid hsv
        clear hsv
        have HFL1 := Lib.hid (HFL.out sv)
        have HSL1 := Lib.hid (HSL.out sv)
        have HEQ1 : Hid (∀ x u2 wq, On wb wq → NR wq u2 x → Calls Tryd.prog 30 #[u2, uB] wq fun e w' => e = .returned (.bool (decide (x = sv))) ∧ On wb w') := Lib.hid fun x u2 wq h hx => HEQ.out x sv u2 uB wb wq h hx (HNb.out.on h)
        have Hwb := Lib.hid (On.refl HOb.out.tab)
        go_wp2_with fail
        go_loopw [10, 11, 12, 13] (fun vf vt vs vk wv => ∃ k : Nat, k ≤ N ∧ vk = .int .i64 (k : Int) ∧ vf = .int .u64 ((fndN S.f fa9 sv k : Nat) : Int) ∧ vt = .bool (thB fb9 sv k) ∧ vs = .int .u64 ((smN S.f fb9 fc9 sv k : Nat) : Int) ∧ Hid (On wb wv)) (fun _ _ _ vk _ => N - (RowKit.intOf vk).toNat)
        case atStart => exact ⟨0, Nat.zero_le _, rfl, rfl, rfl, rfl, Hwb⟩
        case round =>
          rename World => wv
          obtain ⟨k, hk, rfl, rfl, rfl, rfl, HV⟩ := hrel
          by_cases hkt : k < N
          · have hkt' : (k : Int) < (N : Int) := by omega
            have HA2 := Lib.hid (HTA1.out k hkt)
            have HB2 := Lib.hid (HTB1.out k hkt)
            obtain ⟨cb, co, b2, o2, cc, e9, hc0, hc1, hx9⟩ := HCT.out k hkt
            have HE9 := Lib.hid e9
            have HX0 := Lib.hid (fun wq (h : On W0 wq) => cell_on h hc0)
            have HX1 := Lib.hid (fun wq (h : On W0 wq) => cell_on h hc1)
            clear e9 hc0 hc1
            have hf9 : fndN S.f fa9 sv k ≤ 18446744073709551615 := by have h1 := HFL1.out k; have h2 := HP9.out; omega
            have hs9 : smN S.f fb9 fc9 sv k ≤ 18446744073709551615 := by have h1 := HSL1.out k; have h2 := HP9.out; omega
            have HF1 : Hid (fndN S.f fa9 sv (k + 1) = if fa9 k = sv then addF S.f (fndN S.f fa9 sv k) 1 else fndN S.f fa9 sv k) := Lib.hid rfl
            have HS1 : Hid (smN S.f fb9 fc9 sv (k + 1) = if fb9 k = sv then addF S.f (smN S.f fb9 fc9 sv k) (fc9 k) else smN S.f fb9 fc9 sv k) := Lib.hid rfl
            have HH1 : Hid (thB fb9 sv (k + 1) = if fb9 k = sv then true else thB fb9 sv k) := Lib.hid rfl
            have HA3 : Hid (∀ wq, On wb wq → Calls Tryd.prog 25 #[.int .i64 S.f, .int .u64 ((fndN S.f fa9 sv k : Nat) : Int), .int .u64 1] wq fun e w' => e = .returned (.int .u64 ((addF S.f (fndN S.f fa9 sv k) 1 : Nat) : Int)) ∧ On wb w') := Lib.hid (HAD1.out (fndN S.f fa9 sv k) 1 hf9 (by omega))
            have HA4 := Lib.hid (HAD1.out (smN S.f fb9 fc9 sv k) (fc9 k) hs9 hx9)
            have HQ3 := Lib.hid (HEQ1.out (fa9 k))
            have HQ4 := Lib.hid (HEQ1.out (fb9 k))
            clear hf9 hs9
            generalize fndN S.f fa9 sv k = fn at *
            generalize smN S.f fb9 fc9 sv k = sn at *
            generalize thB fb9 sv k = tn at *
            generalize fc9 k = cn at *
            by_cases hea : fa9 k = sv <;> by_cases heb : fb9 k = sv
            · have hda : decide (fa9 k = sv) = true := by simp [hea]
              have hdb : decide (fb9 k = sv) = true := by simp [heb]
              rw [hda] at HQ3
              rw [hdb] at HQ4
              rw [if_pos hea] at HF1
              rw [if_pos heb] at HS1 HH1
              clear hda hdb hea heb
              have hOv := HV.out
              obtain ⟨s0, s1, s2, s3, s4, s5, s6, s7⟩ := HSY.out wv (HOb.out.trans hOv)
              obtain ⟨l0, l1⟩ := HTB.out wv (HOb.out.trans hOv)
              obtain ⟨p0, p1, p3⟩ := HLB.out wv (HOb.out.trans hOv)
              go_upto_region 16 with (first
                | (go_at_call 99; (with_reducible refine (HA2.out _ hOv).mono ?_); rintro e w4 ⟨⟨u4, rfl, hN4⟩, hO4⟩)
                | (go_at_call 30; (with_reducible refine (HQ3.out _ _ hO4 hN4).mono ?_); rintro e w5 ⟨rfl, hO5⟩; clear s0 s1 s2 s3 s4 s5 s6 s7 l0 l1 p0 p1 p3; obtain ⟨s0, s1, s2, s3, s4, s5, s6, s7⟩ := HSY.out w5 (HOb.out.trans hO5); obtain ⟨l0, l1⟩ := HTB.out w5 (HOb.out.trans hO5); obtain ⟨p0, p1, p3⟩ := HLB.out w5 (HOb.out.trans hO5))
                | (go_at_call 25; (with_reducible refine (HA3.out _ hO5).mono ?_); rintro e w6 ⟨rfl, hO6⟩; clear s0 s1 s2 s3 s4 s5 s6 s7 l0 l1 p0 p1 p3; obtain ⟨s0, s1, s2, s3, s4, s5, s6, s7⟩ := HSY.out w6 (HOb.out.trans hO6); obtain ⟨l0, l1⟩ := HTB.out w6 (HOb.out.trans hO6); obtain ⟨p0, p1, p3⟩ := HLB.out w6 (HOb.out.trans hO6))
                | (go_at_call 99; (with_reducible refine (HB2.out _ hO6).mono ?_); rintro e w7 ⟨⟨u7, rfl, hN7⟩, hO7⟩)
                | (go_at_call 30; (with_reducible refine (HQ4.out _ _ hO7 hN7).mono ?_); rintro e w8 ⟨rfl, hO8⟩)
                | fail)
              clear s0 s1 s2 s3 s4 s5 s6 s7 l0 l1 p0 p1 p3
              have HO8 := Lib.hid hO8
              obtain ⟨V0, hV0⟩ : ∃ V0, V0 = w8.drew := ⟨_, rfl⟩
              have hS0 : On wb V0 := by rw [hV0]; exact HO8.out.drew
              refine region_head_tail (S := fun wx => On wb wx) 14 (by kernel_rfl) (by kernel_rfl) ?_
              rw [← hV0]
              clear hV0
              have hix' : (ix : Int) < (M : Int) := by omega
              rw [HE9.out] at HTB
              refine HeadG.take (i := 0) (v := ?z3v0) rfl (by kernel_rfl) (by kernel_rfl) (by kernel_rfl) (by kernel_rfl) (by kernel_rfl) (by kernel_rfl) (by kernel_rfl) (fun _ _ _ h => h) (Or.inl ⟨by rfl, ?z3y0⟩) hS0 ?z3r0
              case z3y0 => (intro wq hwq; go_simp; try with_reducible rfl)
              try simp only [Act.put, List.setIfInBounds_toArray, List.set_cons_zero, List.set_cons_succ, List.getElem_toArray, List.getElem_cons_zero, List.getElem_cons_succ]
              refine HeadG.take (i := 1) (v := .int .i64 S.f) rfl (by kernel_rfl) (by kernel_rfl) (by kernel_rfl) (by kernel_rfl) (by kernel_rfl) (by kernel_rfl) (by kernel_rfl) (fun _ _ _ h => h) (Or.inl ⟨by rfl, ?z3y1⟩) hS0 ?z3r1
              case z3y1 => (intro wq hwq; obtain ⟨s0, s1, s2, s3, s4, s5, s6, s7⟩ := HSY.out wq (HOb.out.trans hwq); go_simp; try with_reducible rfl)
              try simp only [Act.put, List.setIfInBounds_toArray, List.set_cons_zero, List.set_cons_succ, List.getElem_toArray, List.getElem_cons_zero, List.getElem_cons_succ]
              refine HeadG.take (i := 2) (v := ?z3v2) rfl (by kernel_rfl) (by kernel_rfl) (by kernel_rfl) (by kernel_rfl) (by kernel_rfl) (by kernel_rfl) (by kernel_rfl) (fun _ _ _ h => h) (Or.inl ⟨by rfl, ?z3y2⟩) hS0 ?z3r2
              case z3y2 => (intro wq hwq; go_simp; try with_reducible rfl)
              try simp only [Act.put, List.setIfInBounds_toArray, List.set_cons_zero, List.set_cons_succ, List.getElem_toArray, List.getElem_cons_zero, List.getElem_cons_succ]
              refine HeadG.take (i := 3) (v := ?z3v3) rfl (by kernel_rfl) (by kernel_rfl) (by kernel_rfl) (by kernel_rfl) (by kernel_rfl) (by kernel_rfl) (by kernel_rfl) (fun _ _ _ h => h) (Or.inl ⟨by rfl, ?z3y3⟩) hS0 ?z3r3
              case z3y3 => (intro wq hwq; go_simp; try with_reducible rfl)
              try simp only [Act.put, List.setIfInBounds_toArray, List.set_cons_zero, List.set_cons_succ, List.getElem_toArray, List.getElem_cons_zero, List.getElem_cons_succ]
              refine HeadG.take (i := 4) (v := .slice (some ⟨cb, co, none⟩) M mc) rfl (by kernel_rfl) (by kernel_rfl) (by kernel_rfl) (by kernel_rfl) (by kernel_rfl) (by kernel_rfl) (by kernel_rfl) (fun _ _ _ h => h) (Or.inl ⟨by rfl, ?z3y4⟩) hS0 ?z3r4
              case z3y4 => (intro wq hwq; obtain ⟨l0, l1⟩ := HTB.out wq (HOb.out.trans hwq); go_simp; try with_reducible rfl)
              try simp only [Act.put, List.setIfInBounds_toArray, List.set_cons_zero, List.set_cons_succ, List.getElem_toArray, List.getElem_cons_zero, List.getElem_cons_succ]
              refine HeadG.take (i := 5) (v := ?z3v5) rfl (by kernel_rfl) (by kernel_rfl) (by kernel_rfl) (by kernel_rfl) (by kernel_rfl) (by kernel_rfl) (by kernel_rfl) (fun _ _ _ h => h) (Or.inl ⟨by rfl, ?z3y5⟩) hS0 ?z3r5
              case z3y5 => (intro wq hwq; go_simp; try with_reducible rfl)
              try simp only [Act.put, List.setIfInBounds_toArray, List.set_cons_zero, List.set_cons_succ, List.getElem_toArray, List.getElem_cons_zero, List.getElem_cons_succ]
              refine HeadG.take (i := 6) (v := ?z3v6) rfl (by kernel_rfl) (by kernel_rfl) (by kernel_rfl) (by kernel_rfl) (by kernel_rfl) (by kernel_rfl) (by kernel_rfl) (fun _ _ _ h => h) (Or.inl ⟨by rfl, ?z3y6⟩) hS0 ?z3r6
              case z3y6 => (intro wq hwq; go_simp; try with_reducible rfl)
              try simp only [Act.put, List.setIfInBounds_toArray, List.set_cons_zero, List.set_cons_succ, List.getElem_toArray, List.getElem_cons_zero, List.getElem_cons_succ]
              refine HeadG.take (i := 7) (v := .int .i64 (ix : Int)) rfl (by kernel_rfl) (by kernel_rfl) (by kernel_rfl) (by kernel_rfl) (by kernel_rfl) (by kernel_rfl) (by kernel_rfl) (fun _ _ _ h => h) (Or.inl ⟨by rfl, ?z3y7⟩) hS0 ?z3r7
              case z3y7 => (intro wq hwq; obtain ⟨p0, p1, p3⟩ := HLB.out wq (HOb.out.trans hwq); go_simp; try with_reducible rfl)
              try simp only [Act.put, List.setIfInBounds_toArray, List.set_cons_zero, List.set_cons_succ, List.getElem_toArray, List.getElem_cons_zero, List.getElem_cons_succ]
              refine HeadG.take (i := 8) (v := .pointer (some ⟨cb, co + ix, none⟩)) rfl (by kernel_rfl) (by kernel_rfl) (by kernel_rfl) (by kernel_rfl) (by kernel_rfl) (by kernel_rfl) (by kernel_rfl) (fun _ _ _ h => h) (Or.inl ⟨by rfl, ?z3y8⟩) hS0 ?z3r8
              case z3y8 => (intro wq hwq; go_simp; try with_reducible rfl)
              try simp only [Act.put, List.setIfInBounds_toArray, List.set_cons_zero, List.set_cons_succ, List.getElem_toArray, List.getElem_cons_zero, List.getElem_cons_succ]
              refine HeadG.take (i := 9) (v := .slice (some ⟨b2, o2, none⟩) N cc) rfl (by kernel_rfl) (by kernel_rfl) (by kernel_rfl) (by kernel_rfl) (by kernel_rfl) (by kernel_rfl) (by kernel_rfl) (fun _ _ _ h => h) (Or.inl ⟨by rfl, ?z3y9⟩) hS0 ?z3r9
              case z3y9 => (intro wq hwq; have x0 := HX0.out wq (HOb.out.trans hwq); go_simp; try with_reducible rfl)
              try simp only [Act.put, List.setIfInBounds_toArray, List.set_cons_zero, List.set_cons_succ, List.getElem_toArray, List.getElem_cons_zero, List.getElem_cons_succ]
              refine HeadG.take (i := 10) (v := ?z3v10) rfl (by kernel_rfl) (by kernel_rfl) (by kernel_rfl) (by kernel_rfl) (by kernel_rfl) (by kernel_rfl) (by kernel_rfl) (fun _ _ _ h => h) (Or.inl ⟨by rfl, ?z3y10⟩) hS0 ?z3r10
              case z3y10 => (intro wq hwq; go_simp; try with_reducible rfl)
              try simp only [Act.put, List.setIfInBounds_toArray, List.set_cons_zero, List.set_cons_succ, List.getElem_toArray, List.getElem_cons_zero, List.getElem_cons_succ]
              refine HeadG.take (i := 11) (v := .pointer (some ⟨b2, o2 + k, none⟩)) rfl (by kernel_rfl) (by kernel_rfl) (by kernel_rfl) (by kernel_rfl) (by kernel_rfl) (by kernel_rfl) (by kernel_rfl) (fun _ _ _ h => h) (Or.inl ⟨by rfl, ?z3y11⟩) hS0 ?z3r11
              case z3y11 => (intro wq hwq; go_simp; try with_reducible rfl)
              try simp only [Act.put, List.setIfInBounds_toArray, List.set_cons_zero, List.set_cons_succ, List.getElem_toArray, List.getElem_cons_zero, List.getElem_cons_succ]
              refine HeadG.take (i := 12) (v := .int .u64 (cn : Int)) rfl (by kernel_rfl) (by kernel_rfl) (by kernel_rfl) (by kernel_rfl) (by kernel_rfl) (by kernel_rfl) (by kernel_rfl) (fun _ _ _ h => h) (Or.inl ⟨by rfl, ?z3y12⟩) hS0 ?z3r12
              case z3y12 => (intro wq hwq; have x0 := HX1.out wq (HOb.out.trans hwq); go_simp; try with_reducible rfl)
              try simp only [Act.put, List.setIfInBounds_toArray, List.set_cons_zero, List.set_cons_succ, List.getElem_toArray, List.getElem_cons_zero, List.getElem_cons_succ]
              refine HeadG.one (i := 13) rfl (by kernel_rfl) (by kernel_rfl) (fun K9 hK9 => ?_)
              go_simp
              go_at_call 25
              (with_reducible refine (HA4.out _ hS0).mono ?_)
              rintro e w9 ⟨rfl, hO9⟩
              refine hK9.out _ _ hO9 ?_
              clear hK9 K9
              try simp only [Act.put, List.setIfInBounds_toArray, List.set_cons_zero, List.set_cons_succ, List.getElem_toArray, List.getElem_cons_zero, List.getElem_cons_succ]
              refine HeadG.last (i := 14) rfl (by kernel_rfl) (by kernel_rfl) (by kernel_rfl) (fun K9 hK9 => ?_)
              go_simp
              refine hK9.out _ _ ?_
              clear hK9 K9
              try simp only [Act.put, List.setIfInBounds_toArray, List.set_cons_zero, List.set_cons_succ, List.getElem_toArray, List.getElem_cons_zero, List.getElem_cons_succ]
              go_wp2
              go_roundw
              case rel => exact ⟨k + 1, by omega, by simp, by rw [HF1.out], by rw [HH1.out], by rw [HS1.out], Lib.hid hO9⟩
              case measure => simp [RowKit.intOf]; omega
            · have hda : decide (fa9 k = sv) = true := by simp [hea]
              have hdb : decide (fb9 k = sv) = false := by simp [heb]
              rw [hda] at HQ3
              rw [hdb] at HQ4
              rw [if_pos hea] at HF1
              rw [if_neg heb] at HS1 HH1
              clear hda hdb hea heb
              have hOv := HV.out
              obtain ⟨s0, s1, s2, s3, s4, s5, s6, s7⟩ := HSY.out wv (HOb.out.trans hOv)
              obtain ⟨l0, l1⟩ := HTB.out wv (HOb.out.trans hOv)
              obtain ⟨p0, p1, p3⟩ := HLB.out wv (HOb.out.trans hOv)
              go_wp2_with (first
                | (go_at_call 99; (with_reducible refine (HA2.out _ hOv).mono ?_); rintro e w4 ⟨⟨u4, rfl, hN4⟩, hO4⟩)
                | (go_at_call 30; (with_reducible refine (HQ3.out _ _ hO4 hN4).mono ?_); rintro e w5 ⟨rfl, hO5⟩; clear s0 s1 s2 s3 s4 s5 s6 s7 l0 l1 p0 p1 p3; obtain ⟨s0, s1, s2, s3, s4, s5, s6, s7⟩ := HSY.out w5 (HOb.out.trans hO5); obtain ⟨l0, l1⟩ := HTB.out w5 (HOb.out.trans hO5); obtain ⟨p0, p1, p3⟩ := HLB.out w5 (HOb.out.trans hO5))
                | (go_at_call 25; (with_reducible refine (HA3.out _ hO5).mono ?_); rintro e w6 ⟨rfl, hO6⟩; clear s0 s1 s2 s3 s4 s5 s6 s7 l0 l1 p0 p1 p3; obtain ⟨s0, s1, s2, s3, s4, s5, s6, s7⟩ := HSY.out w6 (HOb.out.trans hO6); obtain ⟨l0, l1⟩ := HTB.out w6 (HOb.out.trans hO6); obtain ⟨p0, p1, p3⟩ := HLB.out w6 (HOb.out.trans hO6))
                | (go_at_call 99; (with_reducible refine (HB2.out _ hO6).mono ?_); rintro e w7 ⟨⟨u7, rfl, hN7⟩, hO7⟩)
                | (go_at_call 30; (with_reducible refine (HQ4.out _ _ hO7 hN7).mono ?_); rintro e w8 ⟨rfl, hO8⟩)
                | fail)
              clear s0 s1 s2 s3 s4 s5 s6 s7 l0 l1 p0 p1 p3
              go_roundw
              case rel => exact ⟨k + 1, by omega, by simp, by rw [HF1.out], by rw [HH1.out], by rw [HS1.out], Lib.hid hO8⟩
              case measure => simp [RowKit.intOf]; omega
            · have hda : decide (fa9 k = sv) = false := by simp [hea]
              have hdb : decide (fb9 k = sv) = true := by simp [heb]
              rw [hda] at HQ3
              rw [hdb] at HQ4
              rw [if_neg hea] at HF1
              rw [if_pos heb] at HS1 HH1
              clear hda hdb hea heb
              have hOv := HV.out
              obtain ⟨s0, s1, s2, s3, s4, s5, s6, s7⟩ := HSY.out wv (HOb.out.trans hOv)
              obtain ⟨l0, l1⟩ := HTB.out wv (HOb.out.trans hOv)
              obtain ⟨p0, p1, p3⟩ := HLB.out wv (HOb.out.trans hOv)
              go_upto_region 16 with (first
                | (go_at_call 99; (with_reducible refine (HA2.out _ hOv).mono ?_); rintro e w4 ⟨⟨u4, rfl, hN4⟩, hO4⟩)
                | (go_at_call 30; (with_reducible refine (HQ3.out _ _ hO4 hN4).mono ?_); rintro e w5 ⟨rfl, hO5⟩; clear s0 s1 s2 s3 s4 s5 s6 s7 l0 l1 p0 p1 p3; obtain ⟨s0, s1, s2, s3, s4, s5, s6, s7⟩ := HSY.out w5 (HOb.out.trans hO5); obtain ⟨l0, l1⟩ := HTB.out w5 (HOb.out.trans hO5); obtain ⟨p0, p1, p3⟩ := HLB.out w5 (HOb.out.trans hO5))
                | (go_at_call 25; (with_reducible refine (HA3.out _ hO5).mono ?_); rintro e w6 ⟨rfl, hO6⟩; clear s0 s1 s2 s3 s4 s5 s6 s7 l0 l1 p0 p1 p3; obtain ⟨s0, s1, s2, s3, s4, s5, s6, s7⟩ := HSY.out w6 (HOb.out.trans hO6); obtain ⟨l0, l1⟩ := HTB.out w6 (HOb.out.trans hO6); obtain ⟨p0, p1, p3⟩ := HLB.out w6 (HOb.out.trans hO6))
                | (go_at_call 99; (with_reducible refine (HB2.out _ hO5).mono ?_); rintro e w7 ⟨⟨u7, rfl, hN7⟩, hO7⟩)
                | (go_at_call 30; (with_reducible refine (HQ4.out _ _ hO7 hN7).mono ?_); rintro e w8 ⟨rfl, hO8⟩)
                | fail)
              clear s0 s1 s2 s3 s4 s5 s6 s7 l0 l1 p0 p1 p3
              have HO8 := Lib.hid hO8
              obtain ⟨V0, hV0⟩ : ∃ V0, V0 = w8.drew := ⟨_, rfl⟩
              have hS0 : On wb V0 := by rw [hV0]; exact HO8.out.drew
              refine region_head_tail (S := fun wx => On wb wx) 14 (by kernel_rfl) (by kernel_rfl) ?_
              rw [← hV0]
              clear hV0
              have hix' : (ix : Int) < (M : Int) := by omega
              rw [HE9.out] at HTB
              refine HeadG.take (i := 0) (v := ?z4v0) rfl (by kernel_rfl) (by kernel_rfl) (by kernel_rfl) (by kernel_rfl) (by kernel_rfl) (by kernel_rfl) (by kernel_rfl) (fun _ _ _ h => h) (Or.inl ⟨by rfl, ?z4y0⟩) hS0 ?z4r0
              case z4y0 => (intro wq hwq; go_simp; try with_reducible rfl)
              try simp only [Act.put, List.setIfInBounds_toArray, List.set_cons_zero, List.set_cons_succ, List.getElem_toArray, List.getElem_cons_zero, List.getElem_cons_succ]
              refine HeadG.take (i := 1) (v := .int .i64 S.f) rfl (by kernel_rfl) (by kernel_rfl) (by kernel_rfl) (by kernel_rfl) (by kernel_rfl) (by kernel_rfl) (by kernel_rfl) (fun _ _ _ h => h) (Or.inl ⟨by rfl, ?z4y1⟩) hS0 ?z4r1
              case z4y1 => (intro wq hwq; obtain ⟨s0, s1, s2, s3, s4, s5, s6, s7⟩ := HSY.out wq (HOb.out.trans hwq); go_simp; try with_reducible rfl)
              try simp only [Act.put, List.setIfInBounds_toArray, List.set_cons_zero, List.set_cons_succ, List.getElem_toArray, List.getElem_cons_zero, List.getElem_cons_succ]
              refine HeadG.take (i := 2) (v := ?z4v2) rfl (by kernel_rfl) (by kernel_rfl) (by kernel_rfl) (by kernel_rfl) (by kernel_rfl) (by kernel_rfl) (by kernel_rfl) (fun _ _ _ h => h) (Or.inl ⟨by rfl, ?z4y2⟩) hS0 ?z4r2
              case z4y2 => (intro wq hwq; go_simp; try with_reducible rfl)
              try simp only [Act.put, List.setIfInBounds_toArray, List.set_cons_zero, List.set_cons_succ, List.getElem_toArray, List.getElem_cons_zero, List.getElem_cons_succ]
              refine HeadG.take (i := 3) (v := ?z4v3) rfl (by kernel_rfl) (by kernel_rfl) (by kernel_rfl) (by kernel_rfl) (by kernel_rfl) (by kernel_rfl) (by kernel_rfl) (fun _ _ _ h => h) (Or.inl ⟨by rfl, ?z4y3⟩) hS0 ?z4r3
              case z4y3 => (intro wq hwq; go_simp; try with_reducible rfl)
              try simp only [Act.put, List.setIfInBounds_toArray, List.set_cons_zero, List.set_cons_succ, List.getElem_toArray, List.getElem_cons_zero, List.getElem_cons_succ]
              refine HeadG.take (i := 4) (v := .slice (some ⟨cb, co, none⟩) M mc) rfl (by kernel_rfl) (by kernel_rfl) (by kernel_rfl) (by kernel_rfl) (by kernel_rfl) (by kernel_rfl) (by kernel_rfl) (fun _ _ _ h => h) (Or.inl ⟨by rfl, ?z4y4⟩) hS0 ?z4r4
              case z4y4 => (intro wq hwq; obtain ⟨l0, l1⟩ := HTB.out wq (HOb.out.trans hwq); go_simp; try with_reducible rfl)
              try simp only [Act.put, List.setIfInBounds_toArray, List.set_cons_zero, List.set_cons_succ, List.getElem_toArray, List.getElem_cons_zero, List.getElem_cons_succ]
              refine HeadG.take (i := 5) (v := ?z4v5) rfl (by kernel_rfl) (by kernel_rfl) (by kernel_rfl) (by kernel_rfl) (by kernel_rfl) (by kernel_rfl) (by kernel_rfl) (fun _ _ _ h => h) (Or.inl ⟨by rfl, ?z4y5⟩) hS0 ?z4r5
              case z4y5 => (intro wq hwq; go_simp; try with_reducible rfl)
              try simp only [Act.put, List.setIfInBounds_toArray, List.set_cons_zero, List.set_cons_succ, List.getElem_toArray, List.getElem_cons_zero, List.getElem_cons_succ]
              refine HeadG.take (i := 6) (v := ?z4v6) rfl (by kernel_rfl) (by kernel_rfl) (by kernel_rfl) (by kernel_rfl) (by kernel_rfl) (by kernel_rfl) (by kernel_rfl) (fun _ _ _ h => h) (Or.inl ⟨by rfl, ?z4y6⟩) hS0 ?z4r6
              case z4y6 => (intro wq hwq; go_simp; try with_reducible rfl)
              try simp only [Act.put, List.setIfInBounds_toArray, List.set_cons_zero, List.set_cons_succ, List.getElem_toArray, List.getElem_cons_zero, List.getElem_cons_succ]
              refine HeadG.take (i := 7) (v := .int .i64 (ix : Int)) rfl (by kernel_rfl) (by kernel_rfl) (by kernel_rfl) (by kernel_rfl) (by kernel_rfl) (by kernel_rfl) (by kernel_rfl) (fun _ _ _ h => h) (Or.inl ⟨by rfl, ?z4y7⟩) hS0 ?z4r7
              case z4y7 => (intro wq hwq; obtain ⟨p0, p1, p3⟩ := HLB.out wq (HOb.out.trans hwq); go_simp; try with_reducible rfl)
              try simp only [Act.put, List.setIfInBounds_toArray, List.set_cons_zero, List.set_cons_succ, List.getElem_toArray, List.getElem_cons_zero, List.getElem_cons_succ]
              refine HeadG.take (i := 8) (v := .pointer (some ⟨cb, co + ix, none⟩)) rfl (by kernel_rfl) (by kernel_rfl) (by kernel_rfl) (by kernel_rfl) (by kernel_rfl) (by kernel_rfl) (by kernel_rfl) (fun _ _ _ h => h) (Or.inl ⟨by rfl, ?z4y8⟩) hS0 ?z4r8
              case z4y8 => (intro wq hwq; go_simp; try with_reducible rfl)
              try simp only [Act.put, List.setIfInBounds_toArray, List.set_cons_zero, List.set_cons_succ, List.getElem_toArray, List.getElem_cons_zero, List.getElem_cons_succ]
              refine HeadG.take (i := 9) (v := .slice (some ⟨b2, o2, none⟩) N cc) rfl (by kernel_rfl) (by kernel_rfl) (by kernel_rfl) (by kernel_rfl) (by kernel_rfl) (by kernel_rfl) (by kernel_rfl) (fun _ _ _ h => h) (Or.inl ⟨by rfl, ?z4y9⟩) hS0 ?z4r9
              case z4y9 => (intro wq hwq; have x0 := HX0.out wq (HOb.out.trans hwq); go_simp; try with_reducible rfl)
              try simp only [Act.put, List.setIfInBounds_toArray, List.set_cons_zero, List.set_cons_succ, List.getElem_toArray, List.getElem_cons_zero, List.getElem_cons_succ]
              refine HeadG.take (i := 10) (v := ?z4v10) rfl (by kernel_rfl) (by kernel_rfl) (by kernel_rfl) (by kernel_rfl) (by kernel_rfl) (by kernel_rfl) (by kernel_rfl) (fun _ _ _ h => h) (Or.inl ⟨by rfl, ?z4y10⟩) hS0 ?z4r10
              case z4y10 => (intro wq hwq; go_simp; try with_reducible rfl)
              try simp only [Act.put, List.setIfInBounds_toArray, List.set_cons_zero, List.set_cons_succ, List.getElem_toArray, List.getElem_cons_zero, List.getElem_cons_succ]
              refine HeadG.take (i := 11) (v := .pointer (some ⟨b2, o2 + k, none⟩)) rfl (by kernel_rfl) (by kernel_rfl) (by kernel_rfl) (by kernel_rfl) (by kernel_rfl) (by kernel_rfl) (by kernel_rfl) (fun _ _ _ h => h) (Or.inl ⟨by rfl, ?z4y11⟩) hS0 ?z4r11
              case z4y11 => (intro wq hwq; go_simp; try with_reducible rfl)
              try simp only [Act.put, List.setIfInBounds_toArray, List.set_cons_zero, List.set_cons_succ, List.getElem_toArray, List.getElem_cons_zero, List.getElem_cons_succ]
              refine HeadG.take (i := 12) (v := .int .u64 (cn : Int)) rfl (by kernel_rfl) (by kernel_rfl) (by kernel_rfl) (by kernel_rfl) (by kernel_rfl) (by kernel_rfl) (by kernel_rfl) (fun _ _ _ h => h) (Or.inl ⟨by rfl, ?z4y12⟩) hS0 ?z4r12
              case z4y12 => (intro wq hwq; have x0 := HX1.out wq (HOb.out.trans hwq); go_simp; try with_reducible rfl)
              try simp only [Act.put, List.setIfInBounds_toArray, List.set_cons_zero, List.set_cons_succ, List.getElem_toArray, List.getElem_cons_zero, List.getElem_cons_succ]
              refine HeadG.one (i := 13) rfl (by kernel_rfl) (by kernel_rfl) (fun K9 hK9 => ?_)
              go_simp
              go_at_call 25
              (with_reducible refine (HA4.out _ hS0).mono ?_)
              rintro e w9 ⟨rfl, hO9⟩
              refine hK9.out _ _ hO9 ?_
              clear hK9 K9
              try simp only [Act.put, List.setIfInBounds_toArray, List.set_cons_zero, List.set_cons_succ, List.getElem_toArray, List.getElem_cons_zero, List.getElem_cons_succ]
              refine HeadG.last (i := 14) rfl (by kernel_rfl) (by kernel_rfl) (by kernel_rfl) (fun K9 hK9 => ?_)
              go_simp
              refine hK9.out _ _ ?_
              clear hK9 K9
              try simp only [Act.put, List.setIfInBounds_toArray, List.set_cons_zero, List.set_cons_succ, List.getElem_toArray, List.getElem_cons_zero, List.getElem_cons_succ]
              go_wp2
              go_roundw
              case rel => exact ⟨k + 1, by omega, by simp, by rw [HF1.out], by rw [HH1.out], by rw [HS1.out], Lib.hid hO9⟩
              case measure => simp [RowKit.intOf]; omega
            · have hda : decide (fa9 k = sv) = false := by simp [hea]
              have hdb : decide (fb9 k = sv) = false := by simp [heb]
              rw [hda] at HQ3
              rw [hdb] at HQ4
              rw [if_neg hea] at HF1
              rw [if_neg heb] at HS1 HH1
              clear hda hdb hea heb
              have hOv := HV.out
              obtain ⟨s0, s1, s2, s3, s4, s5, s6, s7⟩ := HSY.out wv (HOb.out.trans hOv)
              obtain ⟨l0, l1⟩ := HTB.out wv (HOb.out.trans hOv)
              obtain ⟨p0, p1, p3⟩ := HLB.out wv (HOb.out.trans hOv)
              go_wp2_with (first
                | (go_at_call 99; (with_reducible refine (HA2.out _ hOv).mono ?_); rintro e w4 ⟨⟨u4, rfl, hN4⟩, hO4⟩)
                | (go_at_call 30; (with_reducible refine (HQ3.out _ _ hO4 hN4).mono ?_); rintro e w5 ⟨rfl, hO5⟩; clear s0 s1 s2 s3 s4 s5 s6 s7 l0 l1 p0 p1 p3; obtain ⟨s0, s1, s2, s3, s4, s5, s6, s7⟩ := HSY.out w5 (HOb.out.trans hO5); obtain ⟨l0, l1⟩ := HTB.out w5 (HOb.out.trans hO5); obtain ⟨p0, p1, p3⟩ := HLB.out w5 (HOb.out.trans hO5))
                | (go_at_call 25; (with_reducible refine (HA3.out _ hO5).mono ?_); rintro e w6 ⟨rfl, hO6⟩; clear s0 s1 s2 s3 s4 s5 s6 s7 l0 l1 p0 p1 p3; obtain ⟨s0, s1, s2, s3, s4, s5, s6, s7⟩ := HSY.out w6 (HOb.out.trans hO6); obtain ⟨l0, l1⟩ := HTB.out w6 (HOb.out.trans hO6); obtain ⟨p0, p1, p3⟩ := HLB.out w6 (HOb.out.trans hO6))
                | (go_at_call 99; (with_reducible refine (HB2.out _ hO5).mono ?_); rintro e w7 ⟨⟨u7, rfl, hN7⟩, hO7⟩)
                | (go_at_call 30; (with_reducible refine (HQ4.out _ _ hO7 hN7).mono ?_); rintro e w8 ⟨rfl, hO8⟩)
                | fail)
              clear s0 s1 s2 s3 s4 s5 s6 s7 l0 l1 p0 p1 p3
              go_roundw
              case rel => exact ⟨k + 1, by omega, by simp, by rw [HF1.out], by rw [HH1.out], by rw [HS1.out], Lib.hid hO8⟩
              case measure => simp [RowKit.intOf]; omega
          · obtain rfl : N = k := by omega
            clear HTA1 HTB1 HAD1 HEQ1 hkt
            obtain ⟨fn, hfn⟩ : ∃ x, x = fndN S.f fa9 sv N := ⟨_, rfl⟩
            obtain ⟨sn, hsn⟩ : ∃ x, x = smN S.f fb9 fc9 sv N := ⟨_, rfl⟩
            obtain ⟨tn, htn⟩ : ∃ x, x = thB fb9 sv N := ⟨_, rfl⟩
            rw [← hfn, ← hsn, ← htn] at HVS
            rw [← hfn, ← hsn, ← htn]
            clear hfn hsn htn HFL1 HSL1
            by_cases hfs : fn = sn
            · have hne : (((fn : Nat) : Int) != ((sn : Nat) : Int)) = false := by simp [hfs]
              cases tn with
              | true =>
                have HCB2 : Hid (cntB S.f fa9 fb9 fc9 N (r + 1) = true) := Lib.hid (by rw [HCS.out, HVS.out, hfs]; simp)
                have HV2 := Lib.hid (HOb.out.trans HV.out)
                clear hfs
                go_wp2
                go_roundw
                case rel => exact ⟨r + 1, by omega, by simp, HCB2, HV2⟩
                case measure => simp [RowKit.intOf]; omega
              | false =>
                have HR9 := Lib.hid (HCN.out (by rw [HVS.out]; simp))
                have HV2 := Lib.hid (HOb.out.trans HV.out)
                clear hfs
                go_wp2
                go_ret
                exact ⟨by rw [HR9.out]; rfl, HO0.out.trans HV2.out⟩
            · have hne : (((fn : Nat) : Int) != ((sn : Nat) : Int)) = true := by simp; omega
              have HR9 := Lib.hid (HCN.out (by rw [HVS.out]; simp [hfs]))
              have HV2 := Lib.hid (HOb.out.trans HV.out)
              clear hfs
              go_wp2
              go_ret
              exact ⟨by rw [HR9.out]; rfl, HO0.out.trans HV2.out⟩
    · have hr2 : r = 2 * N := by omega
      have hlt' : ¬ ((r : Int) < 2 * (N : Int)) := by omega
      have HCB2 : Hid (cntB S.f fa9 fb9 fc9 N (2 * N) = true) := by rw [← hr2]; exact HCB
      clear hr2 hlt
      go_wp2
      go_ret
      exact ⟨by rw [HCB2.out]; rfl, HO0.out.trans HO.out⟩
end Go.Proofs.YtnanjacllmdenaaDoor
