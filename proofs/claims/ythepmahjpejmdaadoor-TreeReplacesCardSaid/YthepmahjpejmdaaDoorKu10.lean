/- The sponge's mixer of a field: what the call returns. -/
import Derived.Test.YthepmahjpejmdaaDoorKu09
import Derived.Deep.MidRow
import Derived.Deep.Cut
set_option linter.unusedSimpArgs false
set_option linter.unusedVariables false
/- The sponge's mixer of a field: what the call returns. -/
namespace Go.Proofs.YthepmahjpejmdaaDoor
open Go.RowKit
set_option linter.unusedVariables false

/-- The cells of a mixer. -/
def mixV (f : Int) (p e s : Nat) (C : Nat → Nat) : List Value := [.int .i64 f, .int .u64 (p : Int), .int .u64 (e : Int), .int .u64 (s : Int)] ++ (List.range 32).map fun i => Value.int .u64 ((C i : Nat) : Int)

theorem mixV_len (f : Int) (p e s : Nat) (C : Nat → Nat) : (mixV f p e s C).length = 36 := rfl
theorem mixV_size (f : Int) (p e s : Nat) (C : Nat → Nat) : (mixV f p e s C).toArray.size = 36 := rfl
theorem mixV_one (f : Int) (p e s : Nat) (C : Nat → Nat) : (mixV f p e s C).toArray.all (·.oneCell') = true := by simp [mixV, Value.oneCell']
theorem mixV_low (f : Int) (p e s : Nat) (C C' : Nat → Nat) (j : Nat) (hj : j < 4) : (mixV f p e s C)[j]? = (mixV f p e s C')[j]? := by
  unfold mixV; rw [List.getElem?_append_left (by simpa using hj), List.getElem?_append_left (by simpa using hj)]
theorem mixV_at (f : Int) (p e s : Nat) (C : Nat → Nat) (i : Nat) (hi : i < 32) : (mixV f p e s C)[4 + i]? = some (.int .u64 ((C i : Nat) : Int)) := by
  unfold mixV; rw [List.getElem?_append_right (by simp)]; simp [hi]
/-- A mixer under way: its cells lie in block N, and may be written. -/
structure Mp (f : Int) (p e s N : Nat) (C : Nat → Nat) (w : World) : Prop where
  lt : N < w.heap.size
  rg : w.rangeAt N 0 (mixV f p e s C)
  fr : ∀ j, j < 36 → w.frozen? ⟨N, j, none⟩ = false
theorem Mp.cell {f : Int} {p e s N : Nat} {C : Nat → Nat} {w : World} (h : Mp f p e s N C w) (i : Nat) (hi : i < 32) : w.cell? ⟨N, 4 + i, none⟩ = some (.int .u64 ((C i : Nat) : Int)) := by
  have := h.rg (4 + i) _ (mixV_at f p e s C i hi); rwa [Nat.zero_add] at this
theorem Mp.c1 {f : Int} {p e s N : Nat} {C : Nat → Nat} {w : World} (h : Mp f p e s N C w) : w.cell? ⟨N, 1, none⟩ = some (.int .u64 (p : Int)) := h.rg 1 _ rfl
theorem Mp.c3 {f : Int} {p e s N : Nat} {C : Nat → Nat} {w : World} (h : Mp f p e s N C w) : w.cell? ⟨N, 3, none⟩ = some (.int .u64 (s : Int)) := h.rg 3 _ rfl
theorem Mp.drewN {f : Int} {p e s N : Nat} {C : Nat → Nat} {w : World} (h : Mp f p e s N C w) (n : Nat) : Mp f p e s N C (w.drewN n) := ⟨h.lt, h.rg, h.fr⟩
theorem mixV_ext {f : Int} {p e s : Nat} {C C' : Nat → Nat} (h : ∀ i, i < 32 → C i = C' i) : mixV f p e s C = mixV f p e s C' := by
  unfold mixV; congr 1; apply List.map_congr_left; intro i hi; rw [h i (by simpa using hi)]
theorem Mp.ext {f : Int} {p e s N : Nat} {C C' : Nat → Nat} {w : World} (h : Mp f p e s N C w) (e' : ∀ i, i < 32 → C i = C' i) : Mp f p e s N C' w := ⟨h.lt, mixV_ext (f := f) (p := p) (e := e) (s := s) e' ▸ h.rg, h.fr⟩
theorem Mp.put {f : Int} {p e s N : Nat} {C : Nat → Nat} {w : World} (h : Mp f p e s N C w) (i v : Nat) (hi : i < 32) : Mp f p e s N (fun k => if k = i then v else C k) (w.setCell ⟨N, 4 + i, none⟩ (.int .u64 (v : Int))) := by
  refine ⟨by simpa [World.setCell] using h.lt, fun j u hj => ?_, fun j hj => by simpa using h.fr j hj⟩
  rw [Nat.zero_add]
  by_cases hji : j = 4 + i
  · subst hji
    rw [mixV_at _ _ _ _ _ i hi, if_pos rfl] at hj
    rw [World.cell?_setCell_same _ _ _ (by rw [h.cell i hi]), ← hj]
  · rw [World.cell?_setCell_other _ _ _ _ (by simp [hji])]
    have hj2 : (mixV f p e s C)[j]? = some u := by
      rw [← hj]
      rcases Nat.lt_or_ge j 4 with h4 | h4
      · exact mixV_low _ _ _ _ _ _ j h4
      · obtain ⟨k, rfl⟩ : ∃ k, j = 4 + k := ⟨j - 4, by omega⟩
        rcases Nat.lt_or_ge k 32 with hk | hk
        · rw [mixV_at _ _ _ _ _ k hk, mixV_at _ _ _ _ _ k hk, if_neg (by omega)]
        · rw [List.getElem?_eq_none (by rw [mixV_len]; omega), List.getElem?_eq_none (by rw [mixV_len]; omega)]
    have := h.rg j u hj2
    rwa [Nat.zero_add] at this
theorem mp_stored {f : Int} {p e s : Nat} {C : Nat → Nat} {w : World} {N : Nat} (hN : N < w.heap.size) (ht : w.there N 0 36) : Mp f p e s N C (w.setCells N 0 (mixV f p e s C)) := by
  refine ⟨?_, World.rangeAt_setCells_same w N 0 _ ht, fun j hj => ?_⟩
  · exact Nat.lt_of_lt_of_le hN (Ap.setCells N (mixV f p e s C) 0 w).size
  · rw [World.frozen?_setCells]
    have := (ht j hj).2
    rwa [Nat.zero_add] at this
theorem Mp.mx {f : Int} {N : Nat} {w : World} (h : Mp f (pOf f) (expOf f) (shareF (pOf f)) N (fun i => cstF f (i / 4) (i % 4)) w) (hp : 0 < pOf f) : Mx f N w :=
  ⟨hp, h.lt, h.rg 0 _ rfl, h.c1, h.rg 2 _ rfl, h.c3, fun r j hr hj => by
    have := h.cell (r * 4 + j) (by omega)
    rw [show (r * 4 + j) / 4 = r by omega, show (r * 4 + j) % 4 = j by omega] at this
    rwa [Nat.add_assoc]⟩
theorem info_mix : (Tryd.prog.info? 85).map (·.size) = some 36 := by kernel_rfl
theorem there_new (w : World) (Z : Array Value) (t : TypeId) : (w.alloc (.cells Z t)).there w.heap.size 0 Z.size := fun j hj => by
  refine ⟨?_, World.frozen?_alloc_new ..⟩
  rw [World.cell?_alloc_new, Nat.zero_add, Array.getElem?_eq_getElem hj]
  rfl
theorem there_on {w w' : World} {B n : Nat} (h : w.there B 0 n) (k : On w w') (hB : B < w.heap.size) : w'.there B 0 n := fun j hj => by
  obtain ⟨h1, h2⟩ := h j hj
  exact ⟨by rw [k.cell (p := ⟨B, 0 + j, none⟩) hB]; exact h1, by rw [k.frozen (p := ⟨B, 0 + j, none⟩) hB]; exact h2⟩
theorem On.setCells {W : World} {B : Nat} (hB : W.heap.size ≤ B) : ∀ (vs : List Value) (o : Nat) (w : World), On W w → On W (w.setCells B o vs) := by
  intro vs
  induction vs with
  | nil => intro o w h; exact h
  | cons v vs ih => intro o w h; exact ih (o + 1) _ (h.setCell (p := ⟨B, o, none⟩) hB v)

theorem results_cell2 {P : Program} {w : World} {fn : Func} {a u : Tmp} {ty : TypeId} {p : Addr} {v : Value} (h : fn.results = #[.cell a ty, .tmp u]) (tmps : Array Value) (hp : tmps.getD a undef = .pointer (some p)) (hl : (loadVar ty p).run P w = .ok v w) :
    (results fn tmps).run P w = .ok (.tuple #[v, tmps.getD u undef]) w := by
  have hp' : tmps[a]?.getD undef = .pointer (some p) := by simpa using hp
  simp [results, h, hp', asAddr, hl]
theorem wpList_built {P : Program} {ops : Array Oper} {rest : List Oper} {op : Oper} {a : Act} {w : World} {Q : Exit → Act → World → Prop} (hgd : op.guard = none) (t : TypeId) (parts : List (Nat × Operand)) (ho : op.op = .build t parts.toArray) (ps : List (Nat × Value))
    (hp : (parts.map fun (i, x) => (i, a.eval x)) = ps) (cells : Array Value) (hb : (Instr.build t ps.toArray).run P w = .ok (.agg cells) w) (h : wpList P ops Q rest (a.put op.dst (.agg cells)) w) : wpList P ops Q (op :: rest) a w :=
  wpList_plain hgd fun _ hK => by
    unfold Oper.wp execOp
    simp only [ho, Sem.run_bind, List.map_toArray, hp, hb, Result.andThen_ok]
    exact hK _ _ h
theorem yieldsIf_built {P : Program} {ops : Array Oper} {S : World → Prop} {op : Oper} {a : Act} (hw : Region.wanted op (yielded ops a.tmps) = true) (t : TypeId) (parts : List (Nat × Operand)) (ho : op.op = .build t parts.toArray) (ps : List (Nat × Value))
    (hp : (parts.map fun (i, x) => (i, a.eval x)) = ps) (cells : Array Value) (hb : ∀ w, (Instr.build t ps.toArray).run P w = .ok (.agg cells) w) : YieldsIf P ops S op (.agg cells) a :=
  .inl ⟨hw, fun w _ => by
    unfold execOp
    simp only [ho, Sem.run_bind, List.map_toArray, hp, hb, Result.andThen_ok]
    rfl⟩
theorem build_mix (f : Int) (p e s : Nat) (w : World) : (Instr.build 85 #[(0, .int .i64 f), (1, .int .u64 (p : Int)), (2, .int .u64 (e : Int)), (3, .int .u64 (s : Int))]).run Tryd.prog w = .ok (.agg (mixV f p e s fun _ => 0).toArray) w := run_build w _ _ _ (by kernel_rfl)
theorem build_zero (w : World) : (Instr.build 85 #[]).run Tryd.prog w = .ok (.agg (mixV 0 0 0 0 fun _ => 0).toArray) w := run_build w _ _ _ (by kernel_rfl)

set_option maxHeartbeats 1000000 in
set_option maxRecDepth 100000 in
theorem mixer_no (f : Int) (w : World) (hT : Tab w) (hv : validB f = false) :
    Calls Tryd.prog 51 #[.int .i64 f] w fun e w' => e = .returned (.tuple #[.agg (mixV 0 0 0 0 fun _ => 0).toArray, .bool false]) ∧ On w w' := by
  have HV := Lib.hid hv; clear hv
  have HX := Lib.hid (fun u (h : Tab u) => of_any f u u (On.refl h))
  have HO := Lib.hid (On.refl hT)
  have HTh := Lib.hid (there_new w (mixV 0 0 0 0 fun _ => 0).toArray 85)
  clear hT
  have hbz := build_zero
  have H1 := Lib.hid (mixV_one 0 0 0 0 fun _ => 0)
  have H2 := Lib.hid (mixV_size 0 0 0 0 fun _ => 0)
  go_enter Tryd.func51, Tryd.ntmps51
  go_wp2_with fail
  with_reducible refine (HX.out _ ?_).mono ?_
  · exact (HO.out.alloc _).tab
  rintro e w1 ⟨rfl, hO1⟩
  have HT1 := Lib.hid (there_on HTh.out hO1 (by simp))
  have HO1 := Lib.hid ((HO.out.alloc _).trans hO1)
  have hz : w.heap.size < w1.heap.size := by have := hO1.size; simp at this; omega
  clear hO1 HTh
  rw [HV.out]
  unfold ofV
  generalize hZ : (mixV 0 0 0 0 fun _ => 0).toArray = Z at *
  have HZ := Lib.hid hZ
  clear hZ
  go_upto_region 3 with (fail)
  have HT2 := Lib.hid (there_on HT1.out ((On.refl HO1.out.tab).alloc (.cells #[.int .u64 ((pOf f : Nat) : Int), .int .u64 ((gOf f : Nat) : Int), .int .i64 ((twoOf f : Nat) : Int), .int .u64 ((expOf f : Nat) : Int)] 76)) (by have := HO1.out.size; have := hz; omega))
  refine wp_region_lit ?_
  refine wpList_built rfl 85 [] rfl [] rfl Z (hbz _) ?_
  refine wpList_store_mid rfl 85 (.tmp 2) (.tmp 17) rfl w.heap.size 0 Z rfl rfl HT2.out (by rw [H2.out]; exact info_mix) H1.out ?_
  go_wp2
  have hl := run_loadVar_mid (P := Tryd.prog) _ w.heap.size 0 85 Z.toList _ (World.rangeAt_setCells_same _ w.heap.size 0 Z.toList HT2.out) Tryd.underlying85 rfl (by rw [Array.length_toList, H2.out]; exact info_mix)
  refine bodyPost_ret (results_cell2 rfl _ rfl hl) rfl ⟨by rw [Array.toArray_toList, HZ.out]; rfl, On.setCells (Nat.le_refl _) _ _ _ (HO1.out.alloc _)⟩
end Go.Proofs.YthepmahjpejmdaaDoor
