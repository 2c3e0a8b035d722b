/- Package poly: Split: what each call returns. -/
import Derived.Test.YtiibcfajcndcnaaDoorKf15
import Derived.Deep.AppendLies
/- Package poly: Split: what each call returns. -/
namespace Go.Proofs.YtiibcfajcndcnaaDoor
open Go.RowKit
set_option linter.unusedVariables false

theorem info_rows : (Tryd.prog.info? 33).map (fun i => (i.zero, i.size, i.bytes)) = some (some (.slice none 0 0), 1, 24) := by kernel_rfl
theorem make_rows (n : Nat) (hn : n ≤ 64) (w : World) :
    (Instr.makeSlice 38 (.int .i64 (n : Int)) (.int .i64 (n : Int))).run Tryd.prog w = .ok (.slice (some ⟨w.heap.size, 0, none⟩) n n) (w.alloc (.cells (madeCells #[.slice none 0 0] n) 33)) := by
  obtain ⟨i0, hi, hz0, hz1, hz2⟩ := info_parts info_rows
  have h := run_make (P := Tryd.prog) w 38 33 i0 (.slice none 0 0) Tryd.underlying38 hi hz0 .i64 .i64 (n : Int) (n : Int) (by omega) (by omega) (by rw [hz2]; omega) (by omega)
  rw [hz1] at h
  simpa [Value.cells] using h
theorem grid_made (w : World) (m : Nat) : Grid w.heap.size (w.heap.size + 1) m (w.alloc (.cells (madeCells #[.slice none 0 0] m) 33)) (fun _ => .slice none 0 0) (fun _ => []) := by
  refine ⟨by omega, by simp, fun j hj => ?_, fun j => World.frozen?_alloc_new .., fun j hj => Ow.nil _ _, fun i j _ _ _ g h => by simp [Value.ownBlock] at h⟩
  rw [World.cell?_alloc_new]
  have hl : (madeCells #[Value.slice none 0 0] m).toList = List.replicate m (Value.slice none 0 0) := toList_madeCells_one _ _
  have : (madeCells #[Value.slice none 0 0] m).toList[j]? = some (Value.slice none 0 0) := by rw [hl]; simp [hj]
  simpa using this
/-- m lists in block G, as they are read. -/
def Lists (G m : Nat) (w : World) (V : Nat → Value) (L : Nat → List Nat) : Prop :=
  G < w.heap.size ∧ (∀ j, j < m → w.cell? ⟨G, j, none⟩ = some (V j)) ∧ (∀ j, w.frozen? ⟨G, j, none⟩ = false) ∧ ∀ j, j < m → Reads w (V j) (L j) ∧ Off G (V j) ∧ Shape (V j) (L j)
theorem Ow.shape' {B : Nat} {w : World} {v : Value} {l : List Nat} (h : Ow B w v l) : Shape v l := by
  rcases h.cases with ⟨rfl, rfl⟩ | ⟨g, cap, rfl, _, hR⟩
  · exact ⟨none, 0, rfl, by simp, by omega, fun _ => rfl⟩
  · have := hR.lt
    exact ⟨_, cap, rfl, this.1, this.2, fun h => by simp at h⟩
theorem Ow.off {B G : Nat} {w : World} {v : Value} {l : List Nat} (h : Ow B w v l) (hG : G < B) : Off G v := by
  rcases h.cases with ⟨rfl, rfl⟩ | ⟨g, cap, rfl, hb, hR⟩
  · intro b o n c e h0; simp at e
  · intro b o n c e h0
    simp only [Value.slice.injEq, Option.some.injEq, Addr.mk.injEq] at e
    obtain ⟨⟨rfl, -⟩, -⟩ := e
    omega
theorem Grid.lists {G B m : Nat} {w : World} {V : Nat → Value} {L : Nat → List Nat} (h : Grid G B m w V L) (hU : ∀ j, j < m → ∀ x ∈ L j, x ≤ 18446744073709551615) : Lists G m w V L :=
  ⟨by have := h.1; have := h.2.1; omega, h.2.2.1, h.2.2.2.1, fun j hj => ⟨(h.2.2.2.2.1 j hj).reads (hU j hj), (h.2.2.2.2.1 j hj).off h.1, (h.2.2.2.2.1 j hj).shape'⟩⟩
theorem Lists.set {G m r : Nat} {w : World} {V : Nat → Value} {L : Nat → List Nat} {u : Value} {l : List Nat} (h : Lists G m w V L) (hr : r < m) (hu : Reads w u l) (ho : Off G u) (hs : Shape u l) :
    Lists G m (w.setCell ⟨G, r, none⟩ u) (fun j => if j = r then u else V j) (fun j => if j = r then l else L j) := by
  obtain ⟨h1, h2, h3, h4⟩ := h
  have hap : Ap G w (w.setCell ⟨G, r, none⟩ u) := (Ap.refl G w).setCell r u
  refine ⟨by simpa [World.setCell] using h1, fun j hj => ?_, fun j => by have := h3 j; simpa using this, fun j hj => ?_⟩
  · by_cases e : j = r
    · subst e; simp only [if_pos]
      exact World.cell?_setCell_same _ _ _ (by rw [h2 j hj])
    · simp only [if_neg e]
      rw [World.cell?_setCell_other _ _ _ _ (by simp [e])]
      exact h2 j hj
  · by_cases e : j = r
    · subst e; simp only [if_pos]; exact ⟨hu.ap hap ho, ho, hs⟩
    · simp only [if_neg e]
      obtain ⟨a1, a2, a3⟩ := h4 j hj
      exact ⟨a1.ap hap a2, a2, a3⟩
theorem Lists.on {G m : Nat} {w w' : World} {V : Nat → Value} {L : Nat → List Nat} (h : Lists G m w V L) (k : On w w') : Lists G m w' V L := by
  obtain ⟨h1, h2, h3, h4⟩ := h
  have hs := k.size
  have hb : w'.heap[G]? = w.heap[G]? := k.2.block G h1
  exact ⟨by omega, fun j hj => (World.cell?_of_block (a := ⟨G, j, none⟩) hb).trans (h2 j hj), fun j => (World.frozen?_of_block (a := ⟨G, j, none⟩) hb).trans (h3 j), fun j hj => ⟨(h4 j hj).1.on k, (h4 j hj).2.1, (h4 j hj).2.2⟩⟩
theorem Lists.drewN {G m : Nat} {w : World} {V : Nat → Value} {L : Nat → List Nat} (h : Lists G m w V L) (n : Nat) : Lists G m (w.drewN n) V L := h
theorem Lists.eq {G m : Nat} {w : World} {V V' : Nat → Value} {L L' : Nat → List Nat} (h : Lists G m w V L) (e : ∀ j, j < m → V' j = V j) (e2 : ∀ j, j < m → L' j = L j) : Lists G m w V' L' :=
  ⟨h.1, fun j hj => by rw [e j hj]; exact h.2.1 j hj, h.2.2.1, fun j hj => by rw [e j hj, e2 j hj]; exact h.2.2.2 j hj⟩
theorem Reads.recap {w : World} {a : Option Addr} {n c c' : Nat} {l : List Nat} (h : Reads w (.slice a n c) l) : Reads w (.slice a n c') l := by
  obtain ⟨h1, h2, ⟨h3, a', c2, h4⟩ | ⟨b, o, c2, h4, h5⟩⟩ := h
  · simp only [Value.slice.injEq] at h4
    obtain ⟨rfl, rfl, -⟩ := h4
    exact ⟨h1, h2, .inl ⟨h3, a, c', rfl⟩⟩
  · simp only [Value.slice.injEq] at h4
    obtain ⟨rfl, rfl, -⟩ := h4
    exact ⟨h1, h2, .inr ⟨b, o, c', rfl, h5⟩⟩
theorem trim_reads (l : List Nat) (v : Value) (w : World) (hR : Reads w v l) (hS : Shape v l) :
    Calls Tryd.prog 59 #[v] w fun e w' => (∃ u, e = .returned u ∧ Reads w u (strip l) ∧ Shape u (strip l) ∧ ∀ B, Off B v → Off B u) ∧ w = w' := by
  obtain ⟨a, cap, rfl, h1, h2, h3⟩ := hS
  refine (trim_rows l a cap w h1 h2 (reads_opt hR).2).mono ?_
  have hle := strip_len l
  rintro e w' ⟨⟨h4, rfl⟩ | rfl, rfl⟩
  · refine ⟨⟨_, rfl, ?_, ?_, fun B _ => fun b o n c e => by simp at e⟩, rfl⟩
    · rw [h4]; exact Reads.nil _ _ _
    · rw [h4]; exact ⟨none, 0, rfl, by simp, by omega, fun _ => rfl⟩
  · refine ⟨⟨_, rfl, ?_, ?_, fun B hB => fun b o n c e h0 => ?_⟩, rfl⟩
    · have := (hR.take (strip l).length (strip l).length (by omega)).recap (c' := (strip l).length)
      exact this.eq (strip_eq_take l).symm
    · refine ⟨a, _, rfl, Nat.le_refl _, by omega, fun e => ?_⟩
      have := h3 e; omega
    · simp only [Value.slice.injEq] at e
      obtain ⟨rfl, rfl, -⟩ := e
      exact hB b o l.length cap rfl (by omega)

set_option maxRecDepth 100000 in
set_option maxHeartbeats 1000000 in
theorem split_any (f : Int) (l : List Nat) (m : Nat) (v : Value) (w : World) (hT : Tab w) (hv : validB f = true) (hR : Reads w v l) (hL : l.length ≤ 1000) (hm1 : 1 ≤ m) (hm64 : m ≤ 64) :
    Calls Tryd.prog 29 #[.int .i64 f, v, .int .i64 (m : Int)] w fun e w' =>
      e = .returned (.slice (some ⟨w.heap.size, 0, none⟩) m m) ∧ On w w' ∧ ∃ V, Lists w.heap.size m w' V (fun j => strip (part f l m (normF f l).length j)) := by
  have HV := Lib.hid hv; clear hv
  have hnl := normF_len f l
  have hmk := make_rows m hm64 w
  obtain ⟨w0, hw0⟩ : ∃ w0, w0 = w.alloc (.cells (madeCells #[.slice none 0 0] m) 33) := ⟨_, rfl⟩
  rw [← hw0] at hmk
  have HG0 : Hid (Grid w.heap.size (w.heap.size + 1) m w0 (fun _ => .slice none 0 0) (fun _ => [])) := by unfold Hid; rw [hw0]; exact grid_made w m
  have HO0 : Hid (On w w0) := by unfold Hid; rw [hw0]; exact (On.refl hT).alloc _
  have HW0 := Lib.hid hw0; clear hw0
  obtain ⟨a, cap, rfl⟩ := hR.shape
  have HR := Lib.hid hR; clear hR
  have HVA : Hid (Calls Tryd.prog 57 #[.int .i64 f] w fun e w' => e = .returned (.bool true) ∧ w = w') := by
    have := valid_any f w
    rwa [HV.out] at this
  generalize hG : w.heap.size = G at *
  have HGE := Lib.hid hG; clear hG
  generalize hN : (normF f l).length = N at *
  have HN := Lib.hid hN; clear hN
  have hm1' : ¬ ((m : Int) < 1) := by omega
  have hm2' : ¬ (64 < (m : Int)) := by omega
  go_enter Tryd.func29, Tryd.ntmps29
  go_wp2_with fail
  refine HVA.out.mono ?_
  rintro e w' ⟨rfl, rfl⟩
  go_wp2_with fail
  refine (length_any f l _ w0 HO0.out.tab (HR.out.on HO0.out)).mono ?_
  rintro e w' ⟨rfl, rfl⟩
  rw [HN.out]
  go_wp2_with fail
  go_loopw [26] (fun vi wr => ∃ (k : Nat) (V : Nat → Value), k ≤ N ∧ vi = .int .i64 (k : Int) ∧ Hid (On w wr ∧ Grid G (G + 1) m wr V (fun j => part f l m k j))) (fun vi _ => N - (intOf vi).toNat)
  case atStart => exact ⟨0, _, Nat.zero_le _, rfl, HO0.out, HG0.out.eq (fun _ => rfl) (fun j _ => part_zero f l m j)⟩
  case round =>
    rename World => wr
    obtain ⟨k, V, hk, rfl, HI⟩ := hrel
    by_cases hlt : k < N
    · obtain ⟨r, hre⟩ : ∃ r, r = k % m := ⟨_, rfl⟩
      have hrm : r < m := by rw [hre]; exact Nat.mod_lt _ (by omega)
      have hrem : (k : Int).tmod (m : Int) = (r : Int) := by rw [IntWalk.rem_in _ _ (by omega), hre]; rfl
      have hwr : IntKind.i64.wrap (r : Int) = (r : Int) := IntWalk.i64_in _ (by omega)
      have hmz : ¬ m = 0 := by omega
      have hm0 : ((m : Int) == 0) = false := by simp only [beq_eq_false_iff_ne, ne_eq]; omega
      obtain ⟨-, hcx⟩ := reads_opt (HR.out.on HI.out.1)
      have hkl : k < l.length := by omega
      obtain ⟨bP, oP, rfl, hcell⟩ := hcx k hkl
      have hxb := HR.out.1 _ (getD_mem l k hkl)
      have hpa := part_at f l m k
      rw [← hre] at hpa
      have HPA := Lib.hid hpa
      have HPO : Hid (∀ j, j ≠ r → part f l m (k + 1) j = part f l m k j) := fun j hj => part_off f l m k j (by rw [← hre]; exact fun e => hj e.symm)
      have HRE := Lib.hid hre
      clear hcx hre hpa
      obtain ⟨u, hu⟩ : ∃ u, u = V r := ⟨_, rfl⟩
      have hcV : wr.cell? ⟨G, r, none⟩ = some u := by rw [hu]; exact HI.out.2.2.2.1 r hrm
      have hown : Ow (G + 1) wr u (part f l m k r) := by rw [hu]; exact HI.out.2.2.2.2.2.1 r hrm
      have hrd := redF_le f (l.getD k 0)
      obtain ⟨au, cu, hue⟩ := hown.shape
      subst hue
      generalize l.getD k 0 = x at *
      obtain ⟨v', w1, hrun, ho, hg, hb⟩ := append_own (G + 1) (redF f x) _ rfl (part f l m k r) _ wr.drew wr.heap.size rfl hown HI.out.2.2.1 (by have := part_len f l m k r; omega)
      obtain ⟨an, cn, hne⟩ := ho.shape
      subst hne
      have hll : (part f l m k r ++ [redF f x]).length = (part f l m k r).length + 1 := by simp
      rw [hll] at hrun ho hb
      generalize hv' : Value.slice an ((part f l m k r).length + 1) cn = v' at *
      have hgr := Grid.step (w := wr) HI.out.2 hrm (v' := v') (l' := part f l m k r ++ [redF f x]) ho (by rw [← hu]; exact ⟨hg.os, hg.tape, hg.output, hg.size, hg.block⟩) (by rw [← hu]; exact hb)
      rw [← hu] at hgr
      obtain ⟨h1c, h1f, hgr2⟩ := hgr
      subst hv'
      have hcV2 : (wr.alloc (.cells #[.int .u64 ((redF f x : Nat) : Int)] 22)).cell? ⟨G, r, none⟩ = some (.slice au (part f l m k r).length cu) := by
        rw [World.cell?_of_block (a := ⟨G, r, none⟩) (Below.heap_alloc wr _ G (cell_size hcV))]; exact hcV
      have HOn1 : Hid (On w (w1.setCell ⟨G, r, none⟩ (.slice an ((part f l m k r).length + 1) cn))) := (HI.out.1.drew.grown (by rw [HGE.out]; omega) hown hg).setCell (by rw [HGE.out]; exact Nat.le_refl _) _
      have HRUN : Hid (∀ ty, (Builtin.append_ #[33, 33] ty #[.slice au (part f l m k r).length cu, .slice (some ⟨wr.heap.size, 0, none⟩) 1 1]).run Tryd.prog (wr.alloc (.cells #[.int .u64 ((redF f x : Nat) : Int)] 22)).drew = .ok (.slice an ((part f l m k r).length + 1) cn) w1) := hrun
      have HGR : Hid (Grid G (G + 1) m (w1.setCell ⟨G, r, none⟩ (.slice an ((part f l m k r).length + 1) cn)) (fun j => if j = r then .slice an ((part f l m k r).length + 1) cn else V j) (fun j => part f l m (k + 1) j)) := hgr2.eq (fun _ => rfl) (fun j _ => by
        by_cases e : j = r
        · subst e; simp only [if_pos]; exact HPA.out
        · simp only [if_neg e]; exact HPO.out j e)
      have HTr := Lib.hid HI.out.1.drew.tab
      clear hrun ho hg hb hgr2 hown hu
      generalize (part f l m k r).length = pl at *
      go_wp2_with fail
      go_region_law (first
        | (go_simp; go_at_call 40; refine (reduce_any f x _ HTr.out hxb).mono ?_; rintro e w' ⟨rfl, rfl⟩)
        | (refine step_append2 (w' := w1) rfl (.tmp 38) (.tmp 45) _ _ rfl (.slice au pl cu) (.slice (some ⟨wr.heap.size, 0, none⟩) 1 1) (.slice an (pl + 1) cn) rfl rfl (fun ty => by with_reducible exact HRUN.out ty) ?_))
      all_goals
        go_wp2_with fail
        go_roundw
        case rel => exact ⟨k + 1, _, by omega, by go_num, HOn1.out, HGR.out⟩
        case measure => simp [intOf]; omega
    · obtain rfl : k = N := by omega
      have HL := Lib.hid (Grid.lists HI.out.2 fun j hj => part_le f l m k j)
      have HO1 := Lib.hid HI.out.1
      clear HI
      go_wp2_with fail
      go_loopw [51] (fun vj wr => ∃ (j : Nat) (V : Nat → Value), j ≤ m ∧ vj = .int .i64 (j : Int) ∧ Hid (On w wr ∧ Lists G m wr V (fun i => if i < j then strip (part f l m k i) else part f l m k i))) (fun vj _ => m - (intOf vj).toNat)
      case atStart => exact ⟨0, V, Nat.zero_le _, rfl, HO1.out, HL.out.eq (fun _ _ => rfl) (fun j _ => by simp)⟩
      case round =>
        rename World => wq
        obtain ⟨j, V2, hj, rfl, HI⟩ := hrel
        by_cases hjm : j < m
        · have hcell := HI.out.2.2.1 j hjm
          have hfr := HI.out.2.2.2.1 j
          obtain ⟨hr0, hoff, hsh⟩ := HI.out.2.2.2.2 j hjm
          simp only [Nat.lt_irrefl, ↓reduceIte] at hr0 hsh
          have HTRIM := Lib.hid (trim_reads _ _ wq hr0 hsh)
          have HOFF := Lib.hid hoff
          obtain ⟨a0, c0, hV0, -⟩ := hsh
          rw [hV0] at hcell
          have HV2 := Lib.hid hV0
          rw [hV0] at HTRIM
          clear hr0 hoff hV0
          go_wp2_with fail
          refine HTRIM.out.mono ?_
          rintro e w' ⟨⟨u, rfl, hu1, hu2, hu3⟩, rfl⟩
          have HS := Lib.hid (HI.out.2.set hjm hu1 (hu3 G (by rw [← HV2.out]; exact HOFF.out)) hu2)
          obtain ⟨au, cu, hue, -⟩ := hu2
          subst hue
          have HOs := Lib.hid (HI.out.1.setCell (p := ⟨G, j, none⟩) (by rw [HGE.out]; exact Nat.le_refl _) (.slice au (strip (part f l m k j)).length cu))
          clear hu1 hu3
          generalize (strip (part f l m k j)).length = sl at *
          generalize (part f l m k j).length = pl at *
          go_wp2_with fail
          go_roundw
          case rel => exact ⟨j + 1, _, by omega, by go_num, HOs.out, HS.out.eq (fun _ _ => rfl) (fun i hi => by
            by_cases e : i = j
            · subst e; simp
            · simp only [if_neg e]
              by_cases e2 : i < j
              · rw [if_pos (by omega), if_pos e2]
              · rw [if_neg (by omega), if_neg e2])⟩
          case measure => simp [intOf]; omega
        · obtain rfl : j = m := by omega
          have HF := Lib.hid HI
          clear HI
          go_wp2_with fail
          go_ret
          exact ⟨rfl, HF.out.out.1, V2, HF.out.out.2.eq (fun _ _ => rfl) (fun i hi => by rw [if_pos hi])⟩
end Go.Proofs.YtiibcfajcndcnaaDoor
