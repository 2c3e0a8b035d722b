/- The walk of the law SpongeBack: it returns true. -/
import Derived.Test.YtbmieoedpgdlpaaDoorSargs
import Derived.Test.YtbmieoedpgdlpaaDoorSredu
import Derived.Test.YtbmieoedpgdlpaaDoorCtail
import Derived.Test.YtbmieoedpgdlpaaDoorQheld
import Derived.Deep.CutBlock
import Derived.Deep.DeepCutAuto
namespace Go.Proofs.YtbmieoedpgdlpaaDoor
open Go.RowKit
set_option linter.unusedVariables false

section
variable {P : Program} {ops : Array Oper} {md : Region.Mode} {S : World → Prop} {Q : Exit → Act → World → Prop}
/-- One of two may come up. -/
theorem HeadG.fork {n g f i j : Nat} {oi oj : Oper} {done : Array Bool} {a : Act} {w : World} (hoi : ops[i]? = some oi) (hoj : ops[j]? = some oj) (hr : Region.ready md ops done = [i, j]) (hin : decide (i < n) = true) (hjn : decide (j < n) = true)
    (hi : ∀ K' : Act → World → Prop, Shut (∀ a w, S w → HeadG P md ops Q S n g f (done.setIfInBounds i true) a w → K' a w) → if Region.wanted oi (yielded ops a.tmps) = true then Oper.wp P oi a w K' Q else K' (a.put oi.dst undef) w)
    (hj : ∀ K' : Act → World → Prop, Shut (∀ a w, S w → HeadG P md ops Q S n g f (done.setIfInBounds j true) a w → K' a w) → if Region.wanted oj (yielded ops a.tmps) = true then Oper.wp P oj a w K' Q else K' (a.put oj.dst undef) w) :
    HeadG P md ops Q S n g (f + 1) done a w := fun inv => by
  have hin' : i < n := by simpa using hin
  have hjn' : j < n := by simpa using hjn
  have hmi : i ∈ Region.ready md ops done := by rw [hr]; simp
  have hmj : j ∈ Region.ready md ops done := by rw [hr]; simp
  refine ⟨by rw [hr]; simp, fun k hk => ?_⟩
  rw [hr] at hk
  rcases List.mem_cons.1 hk with rfl | hk
  · exact ⟨hin', wpOp_step hoi (fun K' hK => hi K' (fun a w hS hW => hK a w ⟨hS, hW (inv.set hmi hin')⟩))⟩
  · rw [List.mem_singleton] at hk
    subst hk
    exact ⟨hjn', wpOp_step hoj (fun K' hK => hj K' (fun a w hS hW => hK a w ⟨hS, hW (inv.set hmj hjn')⟩))⟩
/-- One of three may come up. -/
theorem HeadG.fork3 {n g f i j k : Nat} {oi oj ok : Oper} {done : Array Bool} {a : Act} {w : World} (hoi : ops[i]? = some oi) (hoj : ops[j]? = some oj) (hok : ops[k]? = some ok) (hr : Region.ready md ops done = [i, j, k])
    (hin : decide (i < n) = true) (hjn : decide (j < n) = true) (hkn : decide (k < n) = true)
    (hi : ∀ K' : Act → World → Prop, Shut (∀ a w, S w → HeadG P md ops Q S n g f (done.setIfInBounds i true) a w → K' a w) → if Region.wanted oi (yielded ops a.tmps) = true then Oper.wp P oi a w K' Q else K' (a.put oi.dst undef) w)
    (hj : ∀ K' : Act → World → Prop, Shut (∀ a w, S w → HeadG P md ops Q S n g f (done.setIfInBounds j true) a w → K' a w) → if Region.wanted oj (yielded ops a.tmps) = true then Oper.wp P oj a w K' Q else K' (a.put oj.dst undef) w)
    (hk : ∀ K' : Act → World → Prop, Shut (∀ a w, S w → HeadG P md ops Q S n g f (done.setIfInBounds k true) a w → K' a w) → if Region.wanted ok (yielded ops a.tmps) = true then Oper.wp P ok a w K' Q else K' (a.put ok.dst undef) w) :
    HeadG P md ops Q S n g (f + 1) done a w := fun inv => by
  have hin' : i < n := by simpa using hin
  have hjn' : j < n := by simpa using hjn
  have hkn' : k < n := by simpa using hkn
  have hmi : i ∈ Region.ready md ops done := by rw [hr]; simp
  have hmj : j ∈ Region.ready md ops done := by rw [hr]; simp
  have hmk : k ∈ Region.ready md ops done := by rw [hr]; simp
  refine ⟨by rw [hr]; simp, fun x hx => ?_⟩
  rw [hr] at hx
  rcases List.mem_cons.1 hx with rfl | hx
  · exact ⟨hin', wpOp_step hoi (fun K' hK => hi K' (fun a w hS hW => hK a w ⟨hS, hW (inv.set hmi hin')⟩))⟩
  rcases List.mem_cons.1 hx with rfl | hx
  · exact ⟨hjn', wpOp_step hoj (fun K' hK => hj K' (fun a w hS hW => hK a w ⟨hS, hW (inv.set hmj hjn')⟩))⟩
  · rw [List.mem_singleton] at hx
    subst hx
    exact ⟨hkn', wpOp_step hok (fun K' hK => hk K' (fun a w hS hW => hK a w ⟨hS, hW (inv.set hmk hkn')⟩))⟩
end
/-- Perm and Inverse in a field, by names. -/
theorem perm_k (f : Int) (s P : St) (w : World) (hT : Tab w) (hv : validB f = true) (hs : Sm s) (hP : permS f s = P) :
    Calls Tryd.prog 17 #[.int .i64 f, .agg #[.int .u64 (s.a : Int), .int .u64 (s.b : Int), .int .u64 (s.c : Int), .int .u64 (s.d : Int)]] w fun e w' => e = .returned (.agg #[.int .u64 (P.a : Int), .int .u64 (P.b : Int), .int .u64 (P.c : Int), .int .u64 (P.d : Int)]) ∧ On w w' := by
  have h := perm_any f s w hT hs; rw [okS_yes hv, hP] at h; exact h
theorem inv_k (f : Int) (s P : St) (w : World) (hT : Tab w) (hU : TabU w) (hv : validB f = true) (hs : Sm s) (hP : invS f s = P) :
    Calls Tryd.prog 19 #[.int .i64 f, .agg #[.int .u64 (s.a : Int), .int .u64 (s.b : Int), .int .u64 (s.c : Int), .int .u64 (s.d : Int)]] w fun e w' => e = .returned (.agg #[.int .u64 (P.a : Int), .int .u64 (P.b : Int), .int .u64 (P.c : Int), .int .u64 (P.d : Int)]) ∧ On w w' := by
  have h := inverse_any f s w hT hU hs; rw [okS_yes hv, hP] at h; exact h
theorem red_k (f : Int) (s P : St) (w : World) (hT : Tab w) (hv : validB f = true) (hs : Sm s) (hP : modS f s = P) :
    Calls Tryd.prog 25 #[.int .i64 f, .agg #[.int .u64 (s.a : Int), .int .u64 (s.b : Int), .int .u64 (s.c : Int), .int .u64 (s.d : Int)]] w fun e w' => e = .returned (.agg #[.int .u64 (P.a : Int), .int .u64 (P.b : Int), .int .u64 (P.c : Int), .int .u64 (P.d : Int)]) ∧ On w w' := by
  have h := reduced_any f s w hT hv hs; rw [hP] at h; exact h

set_option maxHeartbeats 4000000 in
set_option maxRecDepth 100000 in
theorem back_any (n : Nat) (s : St) (w : World) (hT : Tab w) (hU : TabU w) (hn : n ≤ 255) (hs : Sm s) :
    Calls Tryd.prog 7 #[.int .u8 (n : Int), .agg #[.int .u64 (s.a : Int), .int .u64 (s.b : Int), .int .u64 (s.c : Int), .int .u64 (s.d : Int)]] w fun e w' => e = .returned (.bool true) ∧ On w w' := by
  obtain ⟨F, hF⟩ : ∃ F : Nat, (n : Int) % 4 = (F : Int) := ⟨n % 4, by omega⟩
  have hF4 : F < 4 := by omega
  have hv : validB (F : Int) = true := by unfold validB; simp; omega
  have hp := (valid_iff (F : Int)).1 hv
  obtain ⟨t, ht⟩ : ∃ t, modS (F : Int) s = t := ⟨_, rfl⟩
  obtain ⟨P, hP⟩ : ∃ P, permS (F : Int) s = P := ⟨_, rfl⟩
  obtain ⟨I, hI⟩ : ∃ I, invS (F : Int) s = I := ⟨_, rfl⟩
  have hte : Els (F : Int) t := by rw [← ht]; exact modS_els _ s hp
  have hPe : Els (F : Int) P := by rw [← hP]; exact permS_els _ s hp
  have hIe : Els (F : Int) I := by rw [← hI]; exact invS_els _ s hp
  have hPt : permS (F : Int) t = P := by rw [← ht, permS_mod _ s hp, hP]
  have hIt : invS (F : Int) t = I := by rw [← ht, invS_mod _ s hp, hI]
  have hIP : invS (F : Int) P = t := by rw [← hP, inv_perm _ s hv, ht]
  have hPI : permS (F : Int) I = t := by rw [← hI, perm_inv _ s hv, ht]
  have HR := Lib.hid (fun w h => red_k (F : Int) s t w h hv hs ht)
  have HP1 := Lib.hid (fun w h => perm_k (F : Int) s P w h hv hs hP)
  have HI1 := Lib.hid (fun w h hu => inv_k (F : Int) s I w h hu hv hs hI)
  have hB0 := blk_new4 w s.a s.b s.c s.d 23
  obtain ⟨W0, hW0⟩ : ∃ W0, W0 = w.alloc (.cells #[.int .u64 (s.a : Int), .int .u64 (s.b : Int), .int .u64 (s.c : Int), .int .u64 (s.d : Int)] 23) := ⟨_, rfl⟩
  have hB1 : Blk w.heap.size W0 (fl4 (ix s)) := by rw [hW0]; exact hB0
  have HB := Lib.hid hB1
  have HO0 : Hid (On w W0) := by rw [hW0]; exact (On.refl hT).alloc _
  have HW0 := Lib.hid hW0
  have HU := Lib.hid hU
  have HT := Lib.hid ht; have HPE := Lib.hid hPe; have HIE := Lib.hid hIe; have HTE := Lib.hid hte
  have HPT := Lib.hid hPt; have HIT := Lib.hid hIt; have HIP := Lib.hid hIP; have HPI := Lib.hid hPI
  have HV := Lib.hid hv; have HSS := Lib.hid hs
  obtain ⟨c0, c1, c2, c3⟩ := hB1.cells4
  clear hB0 hW0 hU ht hP hI hPt hIt hIP hPI hv hs hte hPe hIe hT hB1
  go_enter Tryd.func7, Tryd.ntmps7
  go_wp2_with fail
  rw [← HW0.out]
  refine (HR.out _ HO0.out.tab).mono ?_
  rintro e w1 ⟨rfl, hO1⟩
  have HB1 := Lib.hid (HB.out.on hO1)
  have HO1 := Lib.hid (HO0.out.trans hO1)
  clear hO1 c0 c1 c2 c3 HB HO0 HW0
  go_upto_region 3 with fail
  have HT2 := Lib.hid (blk_new4 w1 t.a t.b t.c t.d 23)
  have HO12 : Hid (On w1 (w1.alloc (.cells #[.int .u64 (t.a : Int), .int .u64 (t.b : Int), .int .u64 (t.c : Int), .int .u64 (t.d : Int)] 23))) := (On.refl HO1.out.tab).alloc _
  generalize hw2 : w1.alloc (.cells #[.int .u64 (t.a : Int), .int .u64 (t.b : Int), .int .u64 (t.c : Int), .int .u64 (t.d : Int)] 23) = w2 at *
  clear hw2
  have HB2 := Lib.hid (HB1.out.on HO12.out)
  have HO2 := Lib.hid (HO1.out.trans HO12.out)
  clear HB1 HO12 HO1
  go_cut [7, 8] (fun s7 s8 wx => ∃ g h : Nat, s7 = .pointer (some ⟨g, 0, none⟩) ∧ s8 = .pointer (some ⟨h, 0, none⟩) ∧ Hid (Blk g wx (fl4 (ix P))) ∧ Hid (Blk h wx (fl4 (ix I))) ∧ Hid (On w2 wx))
  case first =>
    obtain ⟨s0, s1, s2, s3⟩ := HB2.out.cells4
    obtain ⟨V0, hV0⟩ : ∃ V0, V0 = w2.drew := ⟨_, rfl⟩
    have HV0 : Hid (On w2 V0) := by rw [hV0]; exact (On.refl HO2.out.tab).drew
    have HBX : Hid (∀ w', On w2 w' → _) := fun w' hw' => (HB2.out.on hw').cells4
    refine region_head_tail (S := fun wq => On w2 wq) 9 (by kernel_rfl) (by kernel_rfl) ?_
    rw [← hV0]
    clear hV0 s0 s1 s2 s3
    have hSd := HV0.out
    refine HeadG.take (i := 0) (v := ?hbv0) rfl (by kernel_rfl) (by kernel_rfl) (by kernel_rfl) (by kernel_rfl) (by kernel_rfl) (by kernel_rfl) (by kernel_rfl) (fun _ _ _ h => h) (Or.inl ⟨by rfl, ?hby0⟩) hSd ?hbr0
    case hby0 => (intro w' hSw; obtain ⟨e1, e2, e3, e4⟩ := HBX.out w' hSw; go_simp; try with_reducible rfl)
    try simp only [Act.put, List.setIfInBounds_toArray, List.set_cons_zero, List.set_cons_succ, List.getElem_toArray, List.getElem_cons_zero, List.getElem_cons_succ]
    refine HeadG.take (i := 1) (v := ?hbv1) rfl (by kernel_rfl) (by kernel_rfl) (by kernel_rfl) (by kernel_rfl) (by kernel_rfl) (by kernel_rfl) (by kernel_rfl) (fun _ _ _ h => h) (Or.inl ⟨by rfl, ?hby1⟩) hSd ?hbr1
    case hby1 => (intro w' hSw; obtain ⟨e1, e2, e3, e4⟩ := HBX.out w' hSw; go_simp; try with_reducible rfl)
    try simp only [Act.put, List.setIfInBounds_toArray, List.set_cons_zero, List.set_cons_succ, List.getElem_toArray, List.getElem_cons_zero, List.getElem_cons_succ]
    refine HeadG.take (i := 3) (v := ?hbv3) rfl (by kernel_rfl) (by kernel_rfl) (by kernel_rfl) (by kernel_rfl) (by kernel_rfl) (by kernel_rfl) (by kernel_rfl) (fun _ _ _ h => h) (Or.inl ⟨by rfl, ?hby3⟩) hSd ?hbr3
    case hby3 => (intro w' hSw; obtain ⟨e1, e2, e3, e4⟩ := HBX.out w' hSw; go_simp; try with_reducible rfl)
    try simp only [Act.put, List.setIfInBounds_toArray, List.set_cons_zero, List.set_cons_succ, List.getElem_toArray, List.getElem_cons_zero, List.getElem_cons_succ]
    refine HeadG.take (i := 4) (v := ?hbv4) rfl (by kernel_rfl) (by kernel_rfl) (by kernel_rfl) (by kernel_rfl) (by kernel_rfl) (by kernel_rfl) (by kernel_rfl) (fun _ _ _ h => h) (Or.inl ⟨by rfl, ?hby4⟩) hSd ?hbr4
    case hby4 => (intro w' hSw; obtain ⟨e1, e2, e3, e4⟩ := HBX.out w' hSw; go_simp; try with_reducible rfl)
    try simp only [Act.put, List.setIfInBounds_toArray, List.set_cons_zero, List.set_cons_succ, List.getElem_toArray, List.getElem_cons_zero, List.getElem_cons_succ]
    clear hSd
    refine HeadG.fork3 (i := 2) (j := 6) (k := 7) rfl rfl rfl (by kernel_rfl) (by kernel_rfl) (by kernel_rfl) (by kernel_rfl) (fun K9 hK9 => ?_) (fun K9 hK9 => ?_) (fun K9 hK9 => ?_)
    · go_simp
      go_at_call 17
      refine (HP1.out V0 HV0.out.tab).mono ?_
      rintro e V1 ⟨rfl, hOc⟩
      have HV1 := Lib.hid (HV0.out.trans hOc)
      clear hOc
      refine hK9.out _ _ HV1.out ?_
      clear hK9 K9
      try simp only [Act.put, List.setIfInBounds_toArray, List.set_cons_zero, List.set_cons_succ, List.getElem_toArray, List.getElem_cons_zero, List.getElem_cons_succ]
      refine HeadG.fork3 (i := 5) (j := 6) (k := 7) rfl rfl rfl (by kernel_rfl) (by kernel_rfl) (by kernel_rfl) (by kernel_rfl) (fun K9 hK9 => ?_) (fun K9 hK9 => ?_) (fun K9 hK9 => ?_)
      · go_simp
        go_at_call 19
        refine (HI1.out V1 HV1.out.tab (HU.out.on (HO2.out.trans HV1.out))).mono ?_
        rintro e V2 ⟨rfl, hOc⟩
        have HV2 := Lib.hid (HV1.out.trans hOc)
        clear hOc
        refine hK9.out _ _ HV2.out ?_
        clear hK9 K9
        try simp only [Act.put, List.setIfInBounds_toArray, List.set_cons_zero, List.set_cons_succ, List.getElem_toArray, List.getElem_cons_zero, List.getElem_cons_succ]
        refine HeadG.fork (i := 6) (j := 7) rfl rfl (by kernel_rfl) (by kernel_rfl) (by kernel_rfl) (fun K9 hK9 => ?_) (fun K9 hK9 => ?_)
        · go_simp
          have hOc : On V2 (V2.alloc (.cells #[.int .u64 0, .int .u64 0, .int .u64 0, .int .u64 0] 23)) := (On.refl HV2.out.tab).alloc _
          have HV3 := Lib.hid (HV2.out.trans hOc)
          have HG3 : Hid (Blk V2.heap.size (V2.alloc (.cells #[.int .u64 0, .int .u64 0, .int .u64 0, .int .u64 0] 23)) (fl4 (ix ⟨0, 0, 0, 0⟩))) := blk_new4 V2 0 0 0 0 23
          refine hK9.out _ _ HV3.out ?_
          clear hK9 K9 hOc
          try simp only [Act.put, List.setIfInBounds_toArray, List.set_cons_zero, List.set_cons_succ, List.getElem_toArray, List.getElem_cons_zero, List.getElem_cons_succ]
          generalize hw : V2.alloc (.cells #[.int .u64 0, .int .u64 0, .int .u64 0, .int .u64 0] 23) = V3 at *
          clear hw
          refine HeadG.one (i := 7) rfl (by kernel_rfl) (by kernel_rfl) (fun K9 hK9 => ?_)
          go_simp
          have hOc : On V3 (V3.alloc (.cells #[.int .u64 0, .int .u64 0, .int .u64 0, .int .u64 0] 23)) := (On.refl HV3.out.tab).alloc _
          have HV4 := Lib.hid (HV3.out.trans hOc)
          have HH4 : Hid (Blk V3.heap.size (V3.alloc (.cells #[.int .u64 0, .int .u64 0, .int .u64 0, .int .u64 0] 23)) (fl4 (ix ⟨0, 0, 0, 0⟩))) := blk_new4 V3 0 0 0 0 23
          have HG4 := Lib.hid (HG3.out.on hOc)
          have hgh : V2.heap.size ≠ V3.heap.size := by have := HG3.out.1; omega
          refine hK9.out _ _ HV4.out ?_
          clear hK9 K9 hOc
          try simp only [Act.put, List.setIfInBounds_toArray, List.set_cons_zero, List.set_cons_succ, List.getElem_toArray, List.getElem_cons_zero, List.getElem_cons_succ]
          generalize hw : V3.alloc (.cells #[.int .u64 0, .int .u64 0, .int .u64 0, .int .u64 0] 23) = V4 at *
          clear hw
          obtain ⟨g, hg⟩ : ∃ g, g = V2.heap.size := ⟨_, rfl⟩
          obtain ⟨h, hh⟩ : ∃ h, h = V3.heap.size := ⟨_, rfl⟩
          have hg2 : w2.heap.size ≤ g := by rw [hg]; exact HV2.out.size
          have hh2 : w2.heap.size ≤ h := by rw [hh]; exact HV3.out.size
          rw [← hg, ← hh] at hgh
          rw [← hg] at HG4
          rw [← hh] at HH4
          rw [← hg, ← hh]
          obtain ⟨g0, g1, g2, g3⟩ := HG4.out.cells4
          obtain ⟨e0, e1, e2, e3⟩ := HG4.out.free4
          have HGa := Lib.hid (HG4.out.store4 P)
          have HHa := Lib.hid (HH4.out.other4 (C := g) (Ne.symm hgh) (.int .u64 (P.a : Int)) (.int .u64 (P.b : Int)) (.int .u64 (P.c : Int)) (.int .u64 (P.d : Int)))
          have HWa := Lib.hid (HV4.out.store4 (C := g) hg2 (.int .u64 (P.a : Int)) (.int .u64 (P.b : Int)) (.int .u64 (P.c : Int)) (.int .u64 (P.d : Int)))
          clear hg hh
          refine HeadG.one (i := 8) rfl (by kernel_rfl) (by kernel_rfl) (fun K9 hK9 => ?_)
          go_simp
          refine hK9.out _ _ HWa.out ?_
          clear hK9 K9
          try simp only [Act.put, List.setIfInBounds_toArray, List.set_cons_zero, List.set_cons_succ, List.getElem_toArray, List.getElem_cons_zero, List.getElem_cons_succ]
          generalize hw : ((((V4.setCell ⟨g, 0, none⟩ (.int .u64 (P.a : Int))).setCell ⟨g, 1, none⟩ (.int .u64 (P.b : Int))).setCell ⟨g, 2, none⟩ (.int .u64 (P.c : Int))).setCell ⟨g, 3, none⟩ (.int .u64 (P.d : Int))) = Va at *
          clear hw g0 g1 g2 g3 e0 e1 e2 e3
          obtain ⟨g0, g1, g2, g3⟩ := HHa.out.cells4
          obtain ⟨e0, e1, e2, e3⟩ := HHa.out.free4
          have HHb := Lib.hid (HHa.out.store4 I)
          have HGb := Lib.hid (HGa.out.other4 (C := h) hgh (.int .u64 (I.a : Int)) (.int .u64 (I.b : Int)) (.int .u64 (I.c : Int)) (.int .u64 (I.d : Int)))
          have HWb := Lib.hid (HWa.out.store4 (C := h) hh2 (.int .u64 (I.a : Int)) (.int .u64 (I.b : Int)) (.int .u64 (I.c : Int)) (.int .u64 (I.d : Int)))
          refine HeadG.last (i := 9) rfl (by kernel_rfl) (by kernel_rfl) (by kernel_rfl) (fun K9 hK9 => ?_)
          go_simp
          refine hK9.out _ _ ?_
          clear hK9 K9
          try simp only [Act.put, List.setIfInBounds_toArray, List.set_cons_zero, List.set_cons_succ, List.getElem_toArray, List.getElem_cons_zero, List.getElem_cons_succ]
          go_wp2_with fail
          go_meet
          exact ⟨g, h, rfl, rfl, HGb, HHb, HWb⟩
        · go_simp
          have hOc : On V2 (V2.alloc (.cells #[.int .u64 0, .int .u64 0, .int .u64 0, .int .u64 0] 23)) := (On.refl HV2.out.tab).alloc _
          have HV5 := Lib.hid (HV2.out.trans hOc)
          have HH5 : Hid (Blk V2.heap.size (V2.alloc (.cells #[.int .u64 0, .int .u64 0, .int .u64 0, .int .u64 0] 23)) (fl4 (ix ⟨0, 0, 0, 0⟩))) := blk_new4 V2 0 0 0 0 23
          refine hK9.out _ _ HV5.out ?_
          clear hK9 K9 hOc
          try simp only [Act.put, List.setIfInBounds_toArray, List.set_cons_zero, List.set_cons_succ, List.getElem_toArray, List.getElem_cons_zero, List.getElem_cons_succ]
          generalize hw : V2.alloc (.cells #[.int .u64 0, .int .u64 0, .int .u64 0, .int .u64 0] 23) = V5 at *
          clear hw
          refine HeadG.one (i := 6) rfl (by kernel_rfl) (by kernel_rfl) (fun K9 hK9 => ?_)
          go_simp
          have hOc : On V5 (V5.alloc (.cells #[.int .u64 0, .int .u64 0, .int .u64 0, .int .u64 0] 23)) := (On.refl HV5.out.tab).alloc _
          have HV6 := Lib.hid (HV5.out.trans hOc)
          have HG6 : Hid (Blk V5.heap.size (V5.alloc (.cells #[.int .u64 0, .int .u64 0, .int .u64 0, .int .u64 0] 23)) (fl4 (ix ⟨0, 0, 0, 0⟩))) := blk_new4 V5 0 0 0 0 23
          have HH6 := Lib.hid (HH5.out.on hOc)
          have hgh : V5.heap.size ≠ V2.heap.size := by have := HH5.out.1; omega
          refine hK9.out _ _ HV6.out ?_
          clear hK9 K9 hOc
          try simp only [Act.put, List.setIfInBounds_toArray, List.set_cons_zero, List.set_cons_succ, List.getElem_toArray, List.getElem_cons_zero, List.getElem_cons_succ]
          generalize hw : V5.alloc (.cells #[.int .u64 0, .int .u64 0, .int .u64 0, .int .u64 0] 23) = V6 at *
          clear hw
          obtain ⟨g, hg⟩ : ∃ g, g = V5.heap.size := ⟨_, rfl⟩
          obtain ⟨h, hh⟩ : ∃ h, h = V2.heap.size := ⟨_, rfl⟩
          have hg2 : w2.heap.size ≤ g := by rw [hg]; exact HV5.out.size
          have hh2 : w2.heap.size ≤ h := by rw [hh]; exact HV2.out.size
          rw [← hg, ← hh] at hgh
          rw [← hg] at HG6
          rw [← hh] at HH6
          rw [← hg, ← hh]
          obtain ⟨g0, g1, g2, g3⟩ := HG6.out.cells4
          obtain ⟨e0, e1, e2, e3⟩ := HG6.out.free4
          have HGa := Lib.hid (HG6.out.store4 P)
          have HHa := Lib.hid (HH6.out.other4 (C := g) (Ne.symm hgh) (.int .u64 (P.a : Int)) (.int .u64 (P.b : Int)) (.int .u64 (P.c : Int)) (.int .u64 (P.d : Int)))
          have HWa := Lib.hid (HV6.out.store4 (C := g) hg2 (.int .u64 (P.a : Int)) (.int .u64 (P.b : Int)) (.int .u64 (P.c : Int)) (.int .u64 (P.d : Int)))
          clear hg hh
          refine HeadG.one (i := 8) rfl (by kernel_rfl) (by kernel_rfl) (fun K9 hK9 => ?_)
          go_simp
          refine hK9.out _ _ HWa.out ?_
          clear hK9 K9
          try simp only [Act.put, List.setIfInBounds_toArray, List.set_cons_zero, List.set_cons_succ, List.getElem_toArray, List.getElem_cons_zero, List.getElem_cons_succ]
          generalize hw : ((((V6.setCell ⟨g, 0, none⟩ (.int .u64 (P.a : Int))).setCell ⟨g, 1, none⟩ (.int .u64 (P.b : Int))).setCell ⟨g, 2, none⟩ (.int .u64 (P.c : Int))).setCell ⟨g, 3, none⟩ (.int .u64 (P.d : Int))) = Va at *
          clear hw g0 g1 g2 g3 e0 e1 e2 e3
          obtain ⟨g0, g1, g2, g3⟩ := HHa.out.cells4
          obtain ⟨e0, e1, e2, e3⟩ := HHa.out.free4
          have HHb := Lib.hid (HHa.out.store4 I)
          have HGb := Lib.hid (HGa.out.other4 (C := h) hgh (.int .u64 (I.a : Int)) (.int .u64 (I.b : Int)) (.int .u64 (I.c : Int)) (.int .u64 (I.d : Int)))
          have HWb := Lib.hid (HWa.out.store4 (C := h) hh2 (.int .u64 (I.a : Int)) (.int .u64 (I.b : Int)) (.int .u64 (I.c : Int)) (.int .u64 (I.d : Int)))
          refine HeadG.last (i := 9) rfl (by kernel_rfl) (by kernel_rfl) (by kernel_rfl) (fun K9 hK9 => ?_)
          go_simp
          refine hK9.out _ _ ?_
          clear hK9 K9
          try simp only [Act.put, List.setIfInBounds_toArray, List.set_cons_zero, List.set_cons_succ, List.getElem_toArray, List.getElem_cons_zero, List.getElem_cons_succ]
          go_wp2_with fail
          go_meet
          exact ⟨g, h, rfl, rfl, HGb, HHb, HWb⟩
      · go_simp
        have hOc : On V1 (V1.alloc (.cells #[.int .u64 0, .int .u64 0, .int .u64 0, .int .u64 0] 23)) := (On.refl HV1.out.tab).alloc _
        have HV7 := Lib.hid (HV1.out.trans hOc)
        have HG7 : Hid (Blk V1.heap.size (V1.alloc (.cells #[.int .u64 0, .int .u64 0, .int .u64 0, .int .u64 0] 23)) (fl4 (ix ⟨0, 0, 0, 0⟩))) := blk_new4 V1 0 0 0 0 23
        refine hK9.out _ _ HV7.out ?_
        clear hK9 K9 hOc
        try simp only [Act.put, List.setIfInBounds_toArray, List.set_cons_zero, List.set_cons_succ, List.getElem_toArray, List.getElem_cons_zero, List.getElem_cons_succ]
        generalize hw : V1.alloc (.cells #[.int .u64 0, .int .u64 0, .int .u64 0, .int .u64 0] 23) = V7 at *
        clear hw
        refine HeadG.fork (i := 5) (j := 7) rfl rfl (by kernel_rfl) (by kernel_rfl) (by kernel_rfl) (fun K9 hK9 => ?_) (fun K9 hK9 => ?_)
        · go_simp
          go_at_call 19
          refine (HI1.out V7 HV7.out.tab (HU.out.on (HO2.out.trans HV7.out))).mono ?_
          rintro e V8 ⟨rfl, hOc⟩
          have HV8 := Lib.hid (HV7.out.trans hOc)
          have HG8 := Lib.hid (HG7.out.on hOc)
          clear hOc
          refine hK9.out _ _ HV8.out ?_
          clear hK9 K9
          try simp only [Act.put, List.setIfInBounds_toArray, List.set_cons_zero, List.set_cons_succ, List.getElem_toArray, List.getElem_cons_zero, List.getElem_cons_succ]
          refine HeadG.one (i := 7) rfl (by kernel_rfl) (by kernel_rfl) (fun K9 hK9 => ?_)
          go_simp
          have hOc : On V8 (V8.alloc (.cells #[.int .u64 0, .int .u64 0, .int .u64 0, .int .u64 0] 23)) := (On.refl HV8.out.tab).alloc _
          have HV9 := Lib.hid (HV8.out.trans hOc)
          have HH9 : Hid (Blk V8.heap.size (V8.alloc (.cells #[.int .u64 0, .int .u64 0, .int .u64 0, .int .u64 0] 23)) (fl4 (ix ⟨0, 0, 0, 0⟩))) := blk_new4 V8 0 0 0 0 23
          have HG9 := Lib.hid (HG8.out.on hOc)
          have hgh : V1.heap.size ≠ V8.heap.size := by have := HG8.out.1; omega
          refine hK9.out _ _ HV9.out ?_
          clear hK9 K9 hOc
          try simp only [Act.put, List.setIfInBounds_toArray, List.set_cons_zero, List.set_cons_succ, List.getElem_toArray, List.getElem_cons_zero, List.getElem_cons_succ]
          generalize hw : V8.alloc (.cells #[.int .u64 0, .int .u64 0, .int .u64 0, .int .u64 0] 23) = V9 at *
          clear hw
          obtain ⟨g, hg⟩ : ∃ g, g = V1.heap.size := ⟨_, rfl⟩
          obtain ⟨h, hh⟩ : ∃ h, h = V8.heap.size := ⟨_, rfl⟩
          have hg2 : w2.heap.size ≤ g := by rw [hg]; exact HV1.out.size
          have hh2 : w2.heap.size ≤ h := by rw [hh]; exact HV8.out.size
          rw [← hg, ← hh] at hgh
          rw [← hg] at HG9
          rw [← hh] at HH9
          rw [← hg, ← hh]
          obtain ⟨g0, g1, g2, g3⟩ := HG9.out.cells4
          obtain ⟨e0, e1, e2, e3⟩ := HG9.out.free4
          have HGa := Lib.hid (HG9.out.store4 P)
          have HHa := Lib.hid (HH9.out.other4 (C := g) (Ne.symm hgh) (.int .u64 (P.a : Int)) (.int .u64 (P.b : Int)) (.int .u64 (P.c : Int)) (.int .u64 (P.d : Int)))
          have HWa := Lib.hid (HV9.out.store4 (C := g) hg2 (.int .u64 (P.a : Int)) (.int .u64 (P.b : Int)) (.int .u64 (P.c : Int)) (.int .u64 (P.d : Int)))
          clear hg hh
          refine HeadG.one (i := 8) rfl (by kernel_rfl) (by kernel_rfl) (fun K9 hK9 => ?_)
          go_simp
          refine hK9.out _ _ HWa.out ?_
          clear hK9 K9
          try simp only [Act.put, List.setIfInBounds_toArray, List.set_cons_zero, List.set_cons_succ, List.getElem_toArray, List.getElem_cons_zero, List.getElem_cons_succ]
          generalize hw : ((((V9.setCell ⟨g, 0, none⟩ (.int .u64 (P.a : Int))).setCell ⟨g, 1, none⟩ (.int .u64 (P.b : Int))).setCell ⟨g, 2, none⟩ (.int .u64 (P.c : Int))).setCell ⟨g, 3, none⟩ (.int .u64 (P.d : Int))) = Va at *
          clear hw g0 g1 g2 g3 e0 e1 e2 e3
          obtain ⟨g0, g1, g2, g3⟩ := HHa.out.cells4
          obtain ⟨e0, e1, e2, e3⟩ := HHa.out.free4
          have HHb := Lib.hid (HHa.out.store4 I)
          have HGb := Lib.hid (HGa.out.other4 (C := h) hgh (.int .u64 (I.a : Int)) (.int .u64 (I.b : Int)) (.int .u64 (I.c : Int)) (.int .u64 (I.d : Int)))
          have HWb := Lib.hid (HWa.out.store4 (C := h) hh2 (.int .u64 (I.a : Int)) (.int .u64 (I.b : Int)) (.int .u64 (I.c : Int)) (.int .u64 (I.d : Int)))
          refine HeadG.last (i := 9) rfl (by kernel_rfl) (by kernel_rfl) (by kernel_rfl) (fun K9 hK9 => ?_)
          go_simp
          refine hK9.out _ _ ?_
          clear hK9 K9
          try simp only [Act.put, List.setIfInBounds_toArray, List.set_cons_zero, List.set_cons_succ, List.getElem_toArray, List.getElem_cons_zero, List.getElem_cons_succ]
          go_wp2_with fail
          go_meet
          exact ⟨g, h, rfl, rfl, HGb, HHb, HWb⟩
        · go_simp
          have hOc : On V7 (V7.alloc (.cells #[.int .u64 0, .int .u64 0, .int .u64 0, .int .u64 0] 23)) := (On.refl HV7.out.tab).alloc _
          have HV10 := Lib.hid (HV7.out.trans hOc)
          have HH10 : Hid (Blk V7.heap.size (V7.alloc (.cells #[.int .u64 0, .int .u64 0, .int .u64 0, .int .u64 0] 23)) (fl4 (ix ⟨0, 0, 0, 0⟩))) := blk_new4 V7 0 0 0 0 23
          have HG10 := Lib.hid (HG7.out.on hOc)
          have hgh : V1.heap.size ≠ V7.heap.size := by have := HG7.out.1; omega
          refine hK9.out _ _ HV10.out ?_
          clear hK9 K9 hOc
          try simp only [Act.put, List.setIfInBounds_toArray, List.set_cons_zero, List.set_cons_succ, List.getElem_toArray, List.getElem_cons_zero, List.getElem_cons_succ]
          generalize hw : V7.alloc (.cells #[.int .u64 0, .int .u64 0, .int .u64 0, .int .u64 0] 23) = V10 at *
          clear hw
          refine HeadG.one (i := 5) rfl (by kernel_rfl) (by kernel_rfl) (fun K9 hK9 => ?_)
          go_simp
          go_at_call 19
          refine (HI1.out V10 HV10.out.tab (HU.out.on (HO2.out.trans HV10.out))).mono ?_
          rintro e V11 ⟨rfl, hOc⟩
          have HV11 := Lib.hid (HV10.out.trans hOc)
          have HG11 := Lib.hid (HG10.out.on hOc)
          have HH11 := Lib.hid (HH10.out.on hOc)
          clear hOc
          refine hK9.out _ _ HV11.out ?_
          clear hK9 K9
          try simp only [Act.put, List.setIfInBounds_toArray, List.set_cons_zero, List.set_cons_succ, List.getElem_toArray, List.getElem_cons_zero, List.getElem_cons_succ]
          obtain ⟨g, hg⟩ : ∃ g, g = V1.heap.size := ⟨_, rfl⟩
          obtain ⟨h, hh⟩ : ∃ h, h = V7.heap.size := ⟨_, rfl⟩
          have hg2 : w2.heap.size ≤ g := by rw [hg]; exact HV1.out.size
          have hh2 : w2.heap.size ≤ h := by rw [hh]; exact HV7.out.size
          rw [← hg, ← hh] at hgh
          rw [← hg] at HG11
          rw [← hh] at HH11
          rw [← hg, ← hh]
          obtain ⟨g0, g1, g2, g3⟩ := HG11.out.cells4
          obtain ⟨e0, e1, e2, e3⟩ := HG11.out.free4
          have HGa := Lib.hid (HG11.out.store4 P)
          have HHa := Lib.hid (HH11.out.other4 (C := g) (Ne.symm hgh) (.int .u64 (P.a : Int)) (.int .u64 (P.b : Int)) (.int .u64 (P.c : Int)) (.int .u64 (P.d : Int)))
          have HWa := Lib.hid (HV11.out.store4 (C := g) hg2 (.int .u64 (P.a : Int)) (.int .u64 (P.b : Int)) (.int .u64 (P.c : Int)) (.int .u64 (P.d : Int)))
          clear hg hh
          refine HeadG.one (i := 8) rfl (by kernel_rfl) (by kernel_rfl) (fun K9 hK9 => ?_)
          go_simp
          refine hK9.out _ _ HWa.out ?_
          clear hK9 K9
          try simp only [Act.put, List.setIfInBounds_toArray, List.set_cons_zero, List.set_cons_succ, List.getElem_toArray, List.getElem_cons_zero, List.getElem_cons_succ]
          generalize hw : ((((V11.setCell ⟨g, 0, none⟩ (.int .u64 (P.a : Int))).setCell ⟨g, 1, none⟩ (.int .u64 (P.b : Int))).setCell ⟨g, 2, none⟩ (.int .u64 (P.c : Int))).setCell ⟨g, 3, none⟩ (.int .u64 (P.d : Int))) = Va at *
          clear hw g0 g1 g2 g3 e0 e1 e2 e3
          obtain ⟨g0, g1, g2, g3⟩ := HHa.out.cells4
          obtain ⟨e0, e1, e2, e3⟩ := HHa.out.free4
          have HHb := Lib.hid (HHa.out.store4 I)
          have HGb := Lib.hid (HGa.out.other4 (C := h) hgh (.int .u64 (I.a : Int)) (.int .u64 (I.b : Int)) (.int .u64 (I.c : Int)) (.int .u64 (I.d : Int)))
          have HWb := Lib.hid (HWa.out.store4 (C := h) hh2 (.int .u64 (I.a : Int)) (.int .u64 (I.b : Int)) (.int .u64 (I.c : Int)) (.int .u64 (I.d : Int)))
          refine HeadG.last (i := 9) rfl (by kernel_rfl) (by kernel_rfl) (by kernel_rfl) (fun K9 hK9 => ?_)
          go_simp
          refine hK9.out _ _ ?_
          clear hK9 K9
          try simp only [Act.put, List.setIfInBounds_toArray, List.set_cons_zero, List.set_cons_succ, List.getElem_toArray, List.getElem_cons_zero, List.getElem_cons_succ]
          go_wp2_with fail
          go_meet
          exact ⟨g, h, rfl, rfl, HGb, HHb, HWb⟩
      · go_simp
        have hOc : On V1 (V1.alloc (.cells #[.int .u64 0, .int .u64 0, .int .u64 0, .int .u64 0] 23)) := (On.refl HV1.out.tab).alloc _
        have HV12 := Lib.hid (HV1.out.trans hOc)
        have HH12 : Hid (Blk V1.heap.size (V1.alloc (.cells #[.int .u64 0, .int .u64 0, .int .u64 0, .int .u64 0] 23)) (fl4 (ix ⟨0, 0, 0, 0⟩))) := blk_new4 V1 0 0 0 0 23
        refine hK9.out _ _ HV12.out ?_
        clear hK9 K9 hOc
        try simp only [Act.put, List.setIfInBounds_toArray, List.set_cons_zero, List.set_cons_succ, List.getElem_toArray, List.getElem_cons_zero, List.getElem_cons_succ]
        generalize hw : V1.alloc (.cells #[.int .u64 0, .int .u64 0, .int .u64 0, .int .u64 0] 23) = V12 at *
        clear hw
        refine HeadG.fork (i := 5) (j := 6) rfl rfl (by kernel_rfl) (by kernel_rfl) (by kernel_rfl) (fun K9 hK9 => ?_) (fun K9 hK9 => ?_)
        · go_simp
          go_at_call 19
          refine (HI1.out V12 HV12.out.tab (HU.out.on (HO2.out.trans HV12.out))).mono ?_
          rintro e V13 ⟨rfl, hOc⟩
          have HV13 := Lib.hid (HV12.out.trans hOc)
          have HH13 := Lib.hid (HH12.out.on hOc)
          clear hOc
          refine hK9.out _ _ HV13.out ?_
          clear hK9 K9
          try simp only [Act.put, List.setIfInBounds_toArray, List.set_cons_zero, List.set_cons_succ, List.getElem_toArray, List.getElem_cons_zero, List.getElem_cons_succ]
          refine HeadG.one (i := 6) rfl (by kernel_rfl) (by kernel_rfl) (fun K9 hK9 => ?_)
          go_simp
          have hOc : On V13 (V13.alloc (.cells #[.int .u64 0, .int .u64 0, .int .u64 0, .int .u64 0] 23)) := (On.refl HV13.out.tab).alloc _
          have HV14 := Lib.hid (HV13.out.trans hOc)
          have HG14 : Hid (Blk V13.heap.size (V13.alloc (.cells #[.int .u64 0, .int .u64 0, .int .u64 0, .int .u64 0] 23)) (fl4 (ix ⟨0, 0, 0, 0⟩))) := blk_new4 V13 0 0 0 0 23
          have HH14 := Lib.hid (HH13.out.on hOc)
          have hgh : V13.heap.size ≠ V1.heap.size := by have := HH13.out.1; omega
          refine hK9.out _ _ HV14.out ?_
          clear hK9 K9 hOc
          try simp only [Act.put, List.setIfInBounds_toArray, List.set_cons_zero, List.set_cons_succ, List.getElem_toArray, List.getElem_cons_zero, List.getElem_cons_succ]
          generalize hw : V13.alloc (.cells #[.int .u64 0, .int .u64 0, .int .u64 0, .int .u64 0] 23) = V14 at *
          clear hw
          obtain ⟨g, hg⟩ : ∃ g, g = V13.heap.size := ⟨_, rfl⟩
          obtain ⟨h, hh⟩ : ∃ h, h = V1.heap.size := ⟨_, rfl⟩
          have hg2 : w2.heap.size ≤ g := by rw [hg]; exact HV13.out.size
          have hh2 : w2.heap.size ≤ h := by rw [hh]; exact HV1.out.size
          rw [← hg, ← hh] at hgh
          rw [← hg] at HG14
          rw [← hh] at HH14
          rw [← hg, ← hh]
          obtain ⟨g0, g1, g2, g3⟩ := HG14.out.cells4
          obtain ⟨e0, e1, e2, e3⟩ := HG14.out.free4
          have HGa := Lib.hid (HG14.out.store4 P)
          have HHa := Lib.hid (HH14.out.other4 (C := g) (Ne.symm hgh) (.int .u64 (P.a : Int)) (.int .u64 (P.b : Int)) (.int .u64 (P.c : Int)) (.int .u64 (P.d : Int)))
          have HWa := Lib.hid (HV14.out.store4 (C := g) hg2 (.int .u64 (P.a : Int)) (.int .u64 (P.b : Int)) (.int .u64 (P.c : Int)) (.int .u64 (P.d : Int)))
          clear hg hh
          refine HeadG.one (i := 8) rfl (by kernel_rfl) (by kernel_rfl) (fun K9 hK9 => ?_)
          go_simp
          refine hK9.out _ _ HWa.out ?_
          clear hK9 K9
          try simp only [Act.put, List.setIfInBounds_toArray, List.set_cons_zero, List.set_cons_succ, List.getElem_toArray, List.getElem_cons_zero, List.getElem_cons_succ]
          generalize hw : ((((V14.setCell ⟨g, 0, none⟩ (.int .u64 (P.a : Int))).setCell ⟨g, 1, none⟩ (.int .u64 (P.b : Int))).setCell ⟨g, 2, none⟩ (.int .u64 (P.c : Int))).setCell ⟨g, 3, none⟩ (.int .u64 (P.d : Int))) = Va at *
          clear hw g0 g1 g2 g3 e0 e1 e2 e3
          obtain ⟨g0, g1, g2, g3⟩ := HHa.out.cells4
          obtain ⟨e0, e1, e2, e3⟩ := HHa.out.free4
          have HHb := Lib.hid (HHa.out.store4 I)
          have HGb := Lib.hid (HGa.out.other4 (C := h) hgh (.int .u64 (I.a : Int)) (.int .u64 (I.b : Int)) (.int .u64 (I.c : Int)) (.int .u64 (I.d : Int)))
          have HWb := Lib.hid (HWa.out.store4 (C := h) hh2 (.int .u64 (I.a : Int)) (.int .u64 (I.b : Int)) (.int .u64 (I.c : Int)) (.int .u64 (I.d : Int)))
          refine HeadG.last (i := 9) rfl (by kernel_rfl) (by kernel_rfl) (by kernel_rfl) (fun K9 hK9 => ?_)
          go_simp
          refine hK9.out _ _ ?_
          clear hK9 K9
          try simp only [Act.put, List.setIfInBounds_toArray, List.set_cons_zero, List.set_cons_succ, List.getElem_toArray, List.getElem_cons_zero, List.getElem_cons_succ]
          go_wp2_with fail
          go_meet
          exact ⟨g, h, rfl, rfl, HGb, HHb, HWb⟩
        · go_simp
          have hOc : On V12 (V12.alloc (.cells #[.int .u64 0, .int .u64 0, .int .u64 0, .int .u64 0] 23)) := (On.refl HV12.out.tab).alloc _
          have HV15 := Lib.hid (HV12.out.trans hOc)
          have HG15 : Hid (Blk V12.heap.size (V12.alloc (.cells #[.int .u64 0, .int .u64 0, .int .u64 0, .int .u64 0] 23)) (fl4 (ix ⟨0, 0, 0, 0⟩))) := blk_new4 V12 0 0 0 0 23
          have HH15 := Lib.hid (HH12.out.on hOc)
          have hgh : V12.heap.size ≠ V1.heap.size := by have := HH12.out.1; omega
          refine hK9.out _ _ HV15.out ?_
          clear hK9 K9 hOc
          try simp only [Act.put, List.setIfInBounds_toArray, List.set_cons_zero, List.set_cons_succ, List.getElem_toArray, List.getElem_cons_zero, List.getElem_cons_succ]
          generalize hw : V12.alloc (.cells #[.int .u64 0, .int .u64 0, .int .u64 0, .int .u64 0] 23) = V15 at *
          clear hw
          refine HeadG.one (i := 5) rfl (by kernel_rfl) (by kernel_rfl) (fun K9 hK9 => ?_)
          go_simp
          go_at_call 19
          refine (HI1.out V15 HV15.out.tab (HU.out.on (HO2.out.trans HV15.out))).mono ?_
          rintro e V16 ⟨rfl, hOc⟩
          have HV16 := Lib.hid (HV15.out.trans hOc)
          have HG16 := Lib.hid (HG15.out.on hOc)
          have HH16 := Lib.hid (HH15.out.on hOc)
          clear hOc
          refine hK9.out _ _ HV16.out ?_
          clear hK9 K9
          try simp only [Act.put, List.setIfInBounds_toArray, List.set_cons_zero, List.set_cons_succ, List.getElem_toArray, List.getElem_cons_zero, List.getElem_cons_succ]
          obtain ⟨g, hg⟩ : ∃ g, g = V12.heap.size := ⟨_, rfl⟩
          obtain ⟨h, hh⟩ : ∃ h, h = V1.heap.size := ⟨_, rfl⟩
          have hg2 : w2.heap.size ≤ g := by rw [hg]; exact HV12.out.size
          have hh2 : w2.heap.size ≤ h := by rw [hh]; exact HV1.out.size
          rw [← hg, ← hh] at hgh
          rw [← hg] at HG16
          rw [← hh] at HH16
          rw [← hg, ← hh]
          obtain ⟨g0, g1, g2, g3⟩ := HG16.out.cells4
          obtain ⟨e0, e1, e2, e3⟩ := HG16.out.free4
          have HGa := Lib.hid (HG16.out.store4 P)
          have HHa := Lib.hid (HH16.out.other4 (C := g) (Ne.symm hgh) (.int .u64 (P.a : Int)) (.int .u64 (P.b : Int)) (.int .u64 (P.c : Int)) (.int .u64 (P.d : Int)))
          have HWa := Lib.hid (HV16.out.store4 (C := g) hg2 (.int .u64 (P.a : Int)) (.int .u64 (P.b : Int)) (.int .u64 (P.c : Int)) (.int .u64 (P.d : Int)))
          clear hg hh
          refine HeadG.one (i := 8) rfl (by kernel_rfl) (by kernel_rfl) (fun K9 hK9 => ?_)
          go_simp
          refine hK9.out _ _ HWa.out ?_
          clear hK9 K9
          try simp only [Act.put, List.setIfInBounds_toArray, List.set_cons_zero, List.set_cons_succ, List.getElem_toArray, List.getElem_cons_zero, List.getElem_cons_succ]
          generalize hw : ((((V16.setCell ⟨g, 0, none⟩ (.int .u64 (P.a : Int))).setCell ⟨g, 1, none⟩ (.int .u64 (P.b : Int))).setCell ⟨g, 2, none⟩ (.int .u64 (P.c : Int))).setCell ⟨g, 3, none⟩ (.int .u64 (P.d : Int))) = Va at *
          clear hw g0 g1 g2 g3 e0 e1 e2 e3
          obtain ⟨g0, g1, g2, g3⟩ := HHa.out.cells4
          obtain ⟨e0, e1, e2, e3⟩ := HHa.out.free4
          have HHb := Lib.hid (HHa.out.store4 I)
          have HGb := Lib.hid (HGa.out.other4 (C := h) hgh (.int .u64 (I.a : Int)) (.int .u64 (I.b : Int)) (.int .u64 (I.c : Int)) (.int .u64 (I.d : Int)))
          have HWb := Lib.hid (HWa.out.store4 (C := h) hh2 (.int .u64 (I.a : Int)) (.int .u64 (I.b : Int)) (.int .u64 (I.c : Int)) (.int .u64 (I.d : Int)))
          refine HeadG.last (i := 9) rfl (by kernel_rfl) (by kernel_rfl) (by kernel_rfl) (fun K9 hK9 => ?_)
          go_simp
          refine hK9.out _ _ ?_
          clear hK9 K9
          try simp only [Act.put, List.setIfInBounds_toArray, List.set_cons_zero, List.set_cons_succ, List.getElem_toArray, List.getElem_cons_zero, List.getElem_cons_succ]
          go_wp2_with fail
          go_meet
          exact ⟨g, h, rfl, rfl, HGb, HHb, HWb⟩
    · go_simp
      have hOc : On V0 (V0.alloc (.cells #[.int .u64 0, .int .u64 0, .int .u64 0, .int .u64 0] 23)) := (On.refl HV0.out.tab).alloc _
      have HV17 := Lib.hid (HV0.out.trans hOc)
      have HG17 : Hid (Blk V0.heap.size (V0.alloc (.cells #[.int .u64 0, .int .u64 0, .int .u64 0, .int .u64 0] 23)) (fl4 (ix ⟨0, 0, 0, 0⟩))) := blk_new4 V0 0 0 0 0 23
      refine hK9.out _ _ HV17.out ?_
      clear hK9 K9 hOc
      try simp only [Act.put, List.setIfInBounds_toArray, List.set_cons_zero, List.set_cons_succ, List.getElem_toArray, List.getElem_cons_zero, List.getElem_cons_succ]
      generalize hw : V0.alloc (.cells #[.int .u64 0, .int .u64 0, .int .u64 0, .int .u64 0] 23) = V17 at *
      clear hw
      refine HeadG.fork (i := 2) (j := 7) rfl rfl (by kernel_rfl) (by kernel_rfl) (by kernel_rfl) (fun K9 hK9 => ?_) (fun K9 hK9 => ?_)
      · go_simp
        go_at_call 17
        refine (HP1.out V17 HV17.out.tab).mono ?_
        rintro e V18 ⟨rfl, hOc⟩
        have HV18 := Lib.hid (HV17.out.trans hOc)
        have HG18 := Lib.hid (HG17.out.on hOc)
        clear hOc
        refine hK9.out _ _ HV18.out ?_
        clear hK9 K9
        try simp only [Act.put, List.setIfInBounds_toArray, List.set_cons_zero, List.set_cons_succ, List.getElem_toArray, List.getElem_cons_zero, List.getElem_cons_succ]
        refine HeadG.fork (i := 5) (j := 7) rfl rfl (by kernel_rfl) (by kernel_rfl) (by kernel_rfl) (fun K9 hK9 => ?_) (fun K9 hK9 => ?_)
        · go_simp
          go_at_call 19
          refine (HI1.out V18 HV18.out.tab (HU.out.on (HO2.out.trans HV18.out))).mono ?_
          rintro e V19 ⟨rfl, hOc⟩
          have HV19 := Lib.hid (HV18.out.trans hOc)
          have HG19 := Lib.hid (HG18.out.on hOc)
          clear hOc
          refine hK9.out _ _ HV19.out ?_
          clear hK9 K9
          try simp only [Act.put, List.setIfInBounds_toArray, List.set_cons_zero, List.set_cons_succ, List.getElem_toArray, List.getElem_cons_zero, List.getElem_cons_succ]
          refine HeadG.one (i := 7) rfl (by kernel_rfl) (by kernel_rfl) (fun K9 hK9 => ?_)
          go_simp
          have hOc : On V19 (V19.alloc (.cells #[.int .u64 0, .int .u64 0, .int .u64 0, .int .u64 0] 23)) := (On.refl HV19.out.tab).alloc _
          have HV20 := Lib.hid (HV19.out.trans hOc)
          have HH20 : Hid (Blk V19.heap.size (V19.alloc (.cells #[.int .u64 0, .int .u64 0, .int .u64 0, .int .u64 0] 23)) (fl4 (ix ⟨0, 0, 0, 0⟩))) := blk_new4 V19 0 0 0 0 23
          have HG20 := Lib.hid (HG19.out.on hOc)
          have hgh : V0.heap.size ≠ V19.heap.size := by have := HG19.out.1; omega
          refine hK9.out _ _ HV20.out ?_
          clear hK9 K9 hOc
          try simp only [Act.put, List.setIfInBounds_toArray, List.set_cons_zero, List.set_cons_succ, List.getElem_toArray, List.getElem_cons_zero, List.getElem_cons_succ]
          generalize hw : V19.alloc (.cells #[.int .u64 0, .int .u64 0, .int .u64 0, .int .u64 0] 23) = V20 at *
          clear hw
          obtain ⟨g, hg⟩ : ∃ g, g = V0.heap.size := ⟨_, rfl⟩
          obtain ⟨h, hh⟩ : ∃ h, h = V19.heap.size := ⟨_, rfl⟩
          have hg2 : w2.heap.size ≤ g := by rw [hg]; exact HV0.out.size
          have hh2 : w2.heap.size ≤ h := by rw [hh]; exact HV19.out.size
          rw [← hg, ← hh] at hgh
          rw [← hg] at HG20
          rw [← hh] at HH20
          rw [← hg, ← hh]
          obtain ⟨g0, g1, g2, g3⟩ := HG20.out.cells4
          obtain ⟨e0, e1, e2, e3⟩ := HG20.out.free4
          have HGa := Lib.hid (HG20.out.store4 P)
          have HHa := Lib.hid (HH20.out.other4 (C := g) (Ne.symm hgh) (.int .u64 (P.a : Int)) (.int .u64 (P.b : Int)) (.int .u64 (P.c : Int)) (.int .u64 (P.d : Int)))
          have HWa := Lib.hid (HV20.out.store4 (C := g) hg2 (.int .u64 (P.a : Int)) (.int .u64 (P.b : Int)) (.int .u64 (P.c : Int)) (.int .u64 (P.d : Int)))
          clear hg hh
          refine HeadG.one (i := 8) rfl (by kernel_rfl) (by kernel_rfl) (fun K9 hK9 => ?_)
          go_simp
          refine hK9.out _ _ HWa.out ?_
          clear hK9 K9
          try simp only [Act.put, List.setIfInBounds_toArray, List.set_cons_zero, List.set_cons_succ, List.getElem_toArray, List.getElem_cons_zero, List.getElem_cons_succ]
          generalize hw : ((((V20.setCell ⟨g, 0, none⟩ (.int .u64 (P.a : Int))).setCell ⟨g, 1, none⟩ (.int .u64 (P.b : Int))).setCell ⟨g, 2, none⟩ (.int .u64 (P.c : Int))).setCell ⟨g, 3, none⟩ (.int .u64 (P.d : Int))) = Va at *
          clear hw g0 g1 g2 g3 e0 e1 e2 e3
          obtain ⟨g0, g1, g2, g3⟩ := HHa.out.cells4
          obtain ⟨e0, e1, e2, e3⟩ := HHa.out.free4
          have HHb := Lib.hid (HHa.out.store4 I)
          have HGb := Lib.hid (HGa.out.other4 (C := h) hgh (.int .u64 (I.a : Int)) (.int .u64 (I.b : Int)) (.int .u64 (I.c : Int)) (.int .u64 (I.d : Int)))
          have HWb := Lib.hid (HWa.out.store4 (C := h) hh2 (.int .u64 (I.a : Int)) (.int .u64 (I.b : Int)) (.int .u64 (I.c : Int)) (.int .u64 (I.d : Int)))
          refine HeadG.last (i := 9) rfl (by kernel_rfl) (by kernel_rfl) (by kernel_rfl) (fun K9 hK9 => ?_)
          go_simp
          refine hK9.out _ _ ?_
          clear hK9 K9
          try simp only [Act.put, List.setIfInBounds_toArray, List.set_cons_zero, List.set_cons_succ, List.getElem_toArray, List.getElem_cons_zero, List.getElem_cons_succ]
          go_wp2_with fail
          go_meet
          exact ⟨g, h, rfl, rfl, HGb, HHb, HWb⟩
        · go_simp
          have hOc : On V18 (V18.alloc (.cells #[.int .u64 0, .int .u64 0, .int .u64 0, .int .u64 0] 23)) := (On.refl HV18.out.tab).alloc _
          have HV21 := Lib.hid (HV18.out.trans hOc)
          have HH21 : Hid (Blk V18.heap.size (V18.alloc (.cells #[.int .u64 0, .int .u64 0, .int .u64 0, .int .u64 0] 23)) (fl4 (ix ⟨0, 0, 0, 0⟩))) := blk_new4 V18 0 0 0 0 23
          have HG21 := Lib.hid (HG18.out.on hOc)
          have hgh : V0.heap.size ≠ V18.heap.size := by have := HG18.out.1; omega
          refine hK9.out _ _ HV21.out ?_
          clear hK9 K9 hOc
          try simp only [Act.put, List.setIfInBounds_toArray, List.set_cons_zero, List.set_cons_succ, List.getElem_toArray, List.getElem_cons_zero, List.getElem_cons_succ]
          generalize hw : V18.alloc (.cells #[.int .u64 0, .int .u64 0, .int .u64 0, .int .u64 0] 23) = V21 at *
          clear hw
          refine HeadG.one (i := 5) rfl (by kernel_rfl) (by kernel_rfl) (fun K9 hK9 => ?_)
          go_simp
          go_at_call 19
          refine (HI1.out V21 HV21.out.tab (HU.out.on (HO2.out.trans HV21.out))).mono ?_
          rintro e V22 ⟨rfl, hOc⟩
          have HV22 := Lib.hid (HV21.out.trans hOc)
          have HG22 := Lib.hid (HG21.out.on hOc)
          have HH22 := Lib.hid (HH21.out.on hOc)
          clear hOc
          refine hK9.out _ _ HV22.out ?_
          clear hK9 K9
          try simp only [Act.put, List.setIfInBounds_toArray, List.set_cons_zero, List.set_cons_succ, List.getElem_toArray, List.getElem_cons_zero, List.getElem_cons_succ]
          obtain ⟨g, hg⟩ : ∃ g, g = V0.heap.size := ⟨_, rfl⟩
          obtain ⟨h, hh⟩ : ∃ h, h = V18.heap.size := ⟨_, rfl⟩
          have hg2 : w2.heap.size ≤ g := by rw [hg]; exact HV0.out.size
          have hh2 : w2.heap.size ≤ h := by rw [hh]; exact HV18.out.size
          rw [← hg, ← hh] at hgh
          rw [← hg] at HG22
          rw [← hh] at HH22
          rw [← hg, ← hh]
          obtain ⟨g0, g1, g2, g3⟩ := HG22.out.cells4
          obtain ⟨e0, e1, e2, e3⟩ := HG22.out.free4
          have HGa := Lib.hid (HG22.out.store4 P)
          have HHa := Lib.hid (HH22.out.other4 (C := g) (Ne.symm hgh) (.int .u64 (P.a : Int)) (.int .u64 (P.b : Int)) (.int .u64 (P.c : Int)) (.int .u64 (P.d : Int)))
          have HWa := Lib.hid (HV22.out.store4 (C := g) hg2 (.int .u64 (P.a : Int)) (.int .u64 (P.b : Int)) (.int .u64 (P.c : Int)) (.int .u64 (P.d : Int)))
          clear hg hh
          refine HeadG.one (i := 8) rfl (by kernel_rfl) (by kernel_rfl) (fun K9 hK9 => ?_)
          go_simp
          refine hK9.out _ _ HWa.out ?_
          clear hK9 K9
          try simp only [Act.put, List.setIfInBounds_toArray, List.set_cons_zero, List.set_cons_succ, List.getElem_toArray, List.getElem_cons_zero, List.getElem_cons_succ]
          generalize hw : ((((V22.setCell ⟨g, 0, none⟩ (.int .u64 (P.a : Int))).setCell ⟨g, 1, none⟩ (.int .u64 (P.b : Int))).setCell ⟨g, 2, none⟩ (.int .u64 (P.c : Int))).setCell ⟨g, 3, none⟩ (.int .u64 (P.d : Int))) = Va at *
          clear hw g0 g1 g2 g3 e0 e1 e2 e3
          obtain ⟨g0, g1, g2, g3⟩ := HHa.out.cells4
          obtain ⟨e0, e1, e2, e3⟩ := HHa.out.free4
          have HHb := Lib.hid (HHa.out.store4 I)
          have HGb := Lib.hid (HGa.out.other4 (C := h) hgh (.int .u64 (I.a : Int)) (.int .u64 (I.b : Int)) (.int .u64 (I.c : Int)) (.int .u64 (I.d : Int)))
          have HWb := Lib.hid (HWa.out.store4 (C := h) hh2 (.int .u64 (I.a : Int)) (.int .u64 (I.b : Int)) (.int .u64 (I.c : Int)) (.int .u64 (I.d : Int)))
          refine HeadG.last (i := 9) rfl (by kernel_rfl) (by kernel_rfl) (by kernel_rfl) (fun K9 hK9 => ?_)
          go_simp
          refine hK9.out _ _ ?_
          clear hK9 K9
          try simp only [Act.put, List.setIfInBounds_toArray, List.set_cons_zero, List.set_cons_succ, List.getElem_toArray, List.getElem_cons_zero, List.getElem_cons_succ]
          go_wp2_with fail
          go_meet
          exact ⟨g, h, rfl, rfl, HGb, HHb, HWb⟩
      · go_simp
        have hOc : On V17 (V17.alloc (.cells #[.int .u64 0, .int .u64 0, .int .u64 0, .int .u64 0] 23)) := (On.refl HV17.out.tab).alloc _
        have HV23 := Lib.hid (HV17.out.trans hOc)
        have HH23 : Hid (Blk V17.heap.size (V17.alloc (.cells #[.int .u64 0, .int .u64 0, .int .u64 0, .int .u64 0] 23)) (fl4 (ix ⟨0, 0, 0, 0⟩))) := blk_new4 V17 0 0 0 0 23
        have HG23 := Lib.hid (HG17.out.on hOc)
        have hgh : V0.heap.size ≠ V17.heap.size := by have := HG17.out.1; omega
        refine hK9.out _ _ HV23.out ?_
        clear hK9 K9 hOc
        try simp only [Act.put, List.setIfInBounds_toArray, List.set_cons_zero, List.set_cons_succ, List.getElem_toArray, List.getElem_cons_zero, List.getElem_cons_succ]
        generalize hw : V17.alloc (.cells #[.int .u64 0, .int .u64 0, .int .u64 0, .int .u64 0] 23) = V23 at *
        clear hw
        refine HeadG.one (i := 2) rfl (by kernel_rfl) (by kernel_rfl) (fun K9 hK9 => ?_)
        go_simp
        go_at_call 17
        refine (HP1.out V23 HV23.out.tab).mono ?_
        rintro e V24 ⟨rfl, hOc⟩
        have HV24 := Lib.hid (HV23.out.trans hOc)
        have HG24 := Lib.hid (HG23.out.on hOc)
        have HH24 := Lib.hid (HH23.out.on hOc)
        clear hOc
        refine hK9.out _ _ HV24.out ?_
        clear hK9 K9
        try simp only [Act.put, List.setIfInBounds_toArray, List.set_cons_zero, List.set_cons_succ, List.getElem_toArray, List.getElem_cons_zero, List.getElem_cons_succ]
        refine HeadG.one (i := 5) rfl (by kernel_rfl) (by kernel_rfl) (fun K9 hK9 => ?_)
        go_simp
        go_at_call 19
        refine (HI1.out V24 HV24.out.tab (HU.out.on (HO2.out.trans HV24.out))).mono ?_
        rintro e V25 ⟨rfl, hOc⟩
        have HV25 := Lib.hid (HV24.out.trans hOc)
        have HG25 := Lib.hid (HG24.out.on hOc)
        have HH25 := Lib.hid (HH24.out.on hOc)
        clear hOc
        refine hK9.out _ _ HV25.out ?_
        clear hK9 K9
        try simp only [Act.put, List.setIfInBounds_toArray, List.set_cons_zero, List.set_cons_succ, List.getElem_toArray, List.getElem_cons_zero, List.getElem_cons_succ]
        obtain ⟨g, hg⟩ : ∃ g, g = V0.heap.size := ⟨_, rfl⟩
        obtain ⟨h, hh⟩ : ∃ h, h = V17.heap.size := ⟨_, rfl⟩
        have hg2 : w2.heap.size ≤ g := by rw [hg]; exact HV0.out.size
        have hh2 : w2.heap.size ≤ h := by rw [hh]; exact HV17.out.size
        rw [← hg, ← hh] at hgh
        rw [← hg] at HG25
        rw [← hh] at HH25
        rw [← hg, ← hh]
        obtain ⟨g0, g1, g2, g3⟩ := HG25.out.cells4
        obtain ⟨e0, e1, e2, e3⟩ := HG25.out.free4
        have HGa := Lib.hid (HG25.out.store4 P)
        have HHa := Lib.hid (HH25.out.other4 (C := g) (Ne.symm hgh) (.int .u64 (P.a : Int)) (.int .u64 (P.b : Int)) (.int .u64 (P.c : Int)) (.int .u64 (P.d : Int)))
        have HWa := Lib.hid (HV25.out.store4 (C := g) hg2 (.int .u64 (P.a : Int)) (.int .u64 (P.b : Int)) (.int .u64 (P.c : Int)) (.int .u64 (P.d : Int)))
        clear hg hh
        refine HeadG.one (i := 8) rfl (by kernel_rfl) (by kernel_rfl) (fun K9 hK9 => ?_)
        go_simp
        refine hK9.out _ _ HWa.out ?_
        clear hK9 K9
        try simp only [Act.put, List.setIfInBounds_toArray, List.set_cons_zero, List.set_cons_succ, List.getElem_toArray, List.getElem_cons_zero, List.getElem_cons_succ]
        generalize hw : ((((V25.setCell ⟨g, 0, none⟩ (.int .u64 (P.a : Int))).setCell ⟨g, 1, none⟩ (.int .u64 (P.b : Int))).setCell ⟨g, 2, none⟩ (.int .u64 (P.c : Int))).setCell ⟨g, 3, none⟩ (.int .u64 (P.d : Int))) = Va at *
        clear hw g0 g1 g2 g3 e0 e1 e2 e3
        obtain ⟨g0, g1, g2, g3⟩ := HHa.out.cells4
        obtain ⟨e0, e1, e2, e3⟩ := HHa.out.free4
        have HHb := Lib.hid (HHa.out.store4 I)
        have HGb := Lib.hid (HGa.out.other4 (C := h) hgh (.int .u64 (I.a : Int)) (.int .u64 (I.b : Int)) (.int .u64 (I.c : Int)) (.int .u64 (I.d : Int)))
        have HWb := Lib.hid (HWa.out.store4 (C := h) hh2 (.int .u64 (I.a : Int)) (.int .u64 (I.b : Int)) (.int .u64 (I.c : Int)) (.int .u64 (I.d : Int)))
        refine HeadG.last (i := 9) rfl (by kernel_rfl) (by kernel_rfl) (by kernel_rfl) (fun K9 hK9 => ?_)
        go_simp
        refine hK9.out _ _ ?_
        clear hK9 K9
        try simp only [Act.put, List.setIfInBounds_toArray, List.set_cons_zero, List.set_cons_succ, List.getElem_toArray, List.getElem_cons_zero, List.getElem_cons_succ]
        go_wp2_with fail
        go_meet
        exact ⟨g, h, rfl, rfl, HGb, HHb, HWb⟩
    · go_simp
      have hOc : On V0 (V0.alloc (.cells #[.int .u64 0, .int .u64 0, .int .u64 0, .int .u64 0] 23)) := (On.refl HV0.out.tab).alloc _
      have HV26 := Lib.hid (HV0.out.trans hOc)
      have HH26 : Hid (Blk V0.heap.size (V0.alloc (.cells #[.int .u64 0, .int .u64 0, .int .u64 0, .int .u64 0] 23)) (fl4 (ix ⟨0, 0, 0, 0⟩))) := blk_new4 V0 0 0 0 0 23
      refine hK9.out _ _ HV26.out ?_
      clear hK9 K9 hOc
      try simp only [Act.put, List.setIfInBounds_toArray, List.set_cons_zero, List.set_cons_succ, List.getElem_toArray, List.getElem_cons_zero, List.getElem_cons_succ]
      generalize hw : V0.alloc (.cells #[.int .u64 0, .int .u64 0, .int .u64 0, .int .u64 0] 23) = V26 at *
      clear hw
      refine HeadG.fork (i := 2) (j := 6) rfl rfl (by kernel_rfl) (by kernel_rfl) (by kernel_rfl) (fun K9 hK9 => ?_) (fun K9 hK9 => ?_)
      · go_simp
        go_at_call 17
        refine (HP1.out V26 HV26.out.tab).mono ?_
        rintro e V27 ⟨rfl, hOc⟩
        have HV27 := Lib.hid (HV26.out.trans hOc)
        have HH27 := Lib.hid (HH26.out.on hOc)
        clear hOc
        refine hK9.out _ _ HV27.out ?_
        clear hK9 K9
        try simp only [Act.put, List.setIfInBounds_toArray, List.set_cons_zero, List.set_cons_succ, List.getElem_toArray, List.getElem_cons_zero, List.getElem_cons_succ]
        refine HeadG.fork (i := 5) (j := 6) rfl rfl (by kernel_rfl) (by kernel_rfl) (by kernel_rfl) (fun K9 hK9 => ?_) (fun K9 hK9 => ?_)
        · go_simp
          go_at_call 19
          refine (HI1.out V27 HV27.out.tab (HU.out.on (HO2.out.trans HV27.out))).mono ?_
          rintro e V28 ⟨rfl, hOc⟩
          have HV28 := Lib.hid (HV27.out.trans hOc)
          have HH28 := Lib.hid (HH27.out.on hOc)
          clear hOc
          refine hK9.out _ _ HV28.out ?_
          clear hK9 K9
          try simp only [Act.put, List.setIfInBounds_toArray, List.set_cons_zero, List.set_cons_succ, List.getElem_toArray, List.getElem_cons_zero, List.getElem_cons_succ]
          refine HeadG.one (i := 6) rfl (by kernel_rfl) (by kernel_rfl) (fun K9 hK9 => ?_)
          go_simp
          have hOc : On V28 (V28.alloc (.cells #[.int .u64 0, .int .u64 0, .int .u64 0, .int .u64 0] 23)) := (On.refl HV28.out.tab).alloc _
          have HV29 := Lib.hid (HV28.out.trans hOc)
          have HG29 : Hid (Blk V28.heap.size (V28.alloc (.cells #[.int .u64 0, .int .u64 0, .int .u64 0, .int .u64 0] 23)) (fl4 (ix ⟨0, 0, 0, 0⟩))) := blk_new4 V28 0 0 0 0 23
          have HH29 := Lib.hid (HH28.out.on hOc)
          have hgh : V28.heap.size ≠ V0.heap.size := by have := HH28.out.1; omega
          refine hK9.out _ _ HV29.out ?_
          clear hK9 K9 hOc
          try simp only [Act.put, List.setIfInBounds_toArray, List.set_cons_zero, List.set_cons_succ, List.getElem_toArray, List.getElem_cons_zero, List.getElem_cons_succ]
          generalize hw : V28.alloc (.cells #[.int .u64 0, .int .u64 0, .int .u64 0, .int .u64 0] 23) = V29 at *
          clear hw
          obtain ⟨g, hg⟩ : ∃ g, g = V28.heap.size := ⟨_, rfl⟩
          obtain ⟨h, hh⟩ : ∃ h, h = V0.heap.size := ⟨_, rfl⟩
          have hg2 : w2.heap.size ≤ g := by rw [hg]; exact HV28.out.size
          have hh2 : w2.heap.size ≤ h := by rw [hh]; exact HV0.out.size
          rw [← hg, ← hh] at hgh
          rw [← hg] at HG29
          rw [← hh] at HH29
          rw [← hg, ← hh]
          obtain ⟨g0, g1, g2, g3⟩ := HG29.out.cells4
          obtain ⟨e0, e1, e2, e3⟩ := HG29.out.free4
          have HGa := Lib.hid (HG29.out.store4 P)
          have HHa := Lib.hid (HH29.out.other4 (C := g) (Ne.symm hgh) (.int .u64 (P.a : Int)) (.int .u64 (P.b : Int)) (.int .u64 (P.c : Int)) (.int .u64 (P.d : Int)))
          have HWa := Lib.hid (HV29.out.store4 (C := g) hg2 (.int .u64 (P.a : Int)) (.int .u64 (P.b : Int)) (.int .u64 (P.c : Int)) (.int .u64 (P.d : Int)))
          clear hg hh
          refine HeadG.one (i := 8) rfl (by kernel_rfl) (by kernel_rfl) (fun K9 hK9 => ?_)
          go_simp
          refine hK9.out _ _ HWa.out ?_
          clear hK9 K9
          try simp only [Act.put, List.setIfInBounds_toArray, List.set_cons_zero, List.set_cons_succ, List.getElem_toArray, List.getElem_cons_zero, List.getElem_cons_succ]
          generalize hw : ((((V29.setCell ⟨g, 0, none⟩ (.int .u64 (P.a : Int))).setCell ⟨g, 1, none⟩ (.int .u64 (P.b : Int))).setCell ⟨g, 2, none⟩ (.int .u64 (P.c : Int))).setCell ⟨g, 3, none⟩ (.int .u64 (P.d : Int))) = Va at *
          clear hw g0 g1 g2 g3 e0 e1 e2 e3
          obtain ⟨g0, g1, g2, g3⟩ := HHa.out.cells4
          obtain ⟨e0, e1, e2, e3⟩ := HHa.out.free4
          have HHb := Lib.hid (HHa.out.store4 I)
          have HGb := Lib.hid (HGa.out.other4 (C := h) hgh (.int .u64 (I.a : Int)) (.int .u64 (I.b : Int)) (.int .u64 (I.c : Int)) (.int .u64 (I.d : Int)))
          have HWb := Lib.hid (HWa.out.store4 (C := h) hh2 (.int .u64 (I.a : Int)) (.int .u64 (I.b : Int)) (.int .u64 (I.c : Int)) (.int .u64 (I.d : Int)))
          refine HeadG.last (i := 9) rfl (by kernel_rfl) (by kernel_rfl) (by kernel_rfl) (fun K9 hK9 => ?_)
          go_simp
          refine hK9.out _ _ ?_
          clear hK9 K9
          try simp only [Act.put, List.setIfInBounds_toArray, List.set_cons_zero, List.set_cons_succ, List.getElem_toArray, List.getElem_cons_zero, List.getElem_cons_succ]
          go_wp2_with fail
          go_meet
          exact ⟨g, h, rfl, rfl, HGb, HHb, HWb⟩
        · go_simp
          have hOc : On V27 (V27.alloc (.cells #[.int .u64 0, .int .u64 0, .int .u64 0, .int .u64 0] 23)) := (On.refl HV27.out.tab).alloc _
          have HV30 := Lib.hid (HV27.out.trans hOc)
          have HG30 : Hid (Blk V27.heap.size (V27.alloc (.cells #[.int .u64 0, .int .u64 0, .int .u64 0, .int .u64 0] 23)) (fl4 (ix ⟨0, 0, 0, 0⟩))) := blk_new4 V27 0 0 0 0 23
          have HH30 := Lib.hid (HH27.out.on hOc)
          have hgh : V27.heap.size ≠ V0.heap.size := by have := HH27.out.1; omega
          refine hK9.out _ _ HV30.out ?_
          clear hK9 K9 hOc
          try simp only [Act.put, List.setIfInBounds_toArray, List.set_cons_zero, List.set_cons_succ, List.getElem_toArray, List.getElem_cons_zero, List.getElem_cons_succ]
          generalize hw : V27.alloc (.cells #[.int .u64 0, .int .u64 0, .int .u64 0, .int .u64 0] 23) = V30 at *
          clear hw
          refine HeadG.one (i := 5) rfl (by kernel_rfl) (by kernel_rfl) (fun K9 hK9 => ?_)
          go_simp
          go_at_call 19
          refine (HI1.out V30 HV30.out.tab (HU.out.on (HO2.out.trans HV30.out))).mono ?_
          rintro e V31 ⟨rfl, hOc⟩
          have HV31 := Lib.hid (HV30.out.trans hOc)
          have HG31 := Lib.hid (HG30.out.on hOc)
          have HH31 := Lib.hid (HH30.out.on hOc)
          clear hOc
          refine hK9.out _ _ HV31.out ?_
          clear hK9 K9
          try simp only [Act.put, List.setIfInBounds_toArray, List.set_cons_zero, List.set_cons_succ, List.getElem_toArray, List.getElem_cons_zero, List.getElem_cons_succ]
          obtain ⟨g, hg⟩ : ∃ g, g = V27.heap.size := ⟨_, rfl⟩
          obtain ⟨h, hh⟩ : ∃ h, h = V0.heap.size := ⟨_, rfl⟩
          have hg2 : w2.heap.size ≤ g := by rw [hg]; exact HV27.out.size
          have hh2 : w2.heap.size ≤ h := by rw [hh]; exact HV0.out.size
          rw [← hg, ← hh] at hgh
          rw [← hg] at HG31
          rw [← hh] at HH31
          rw [← hg, ← hh]
          obtain ⟨g0, g1, g2, g3⟩ := HG31.out.cells4
          obtain ⟨e0, e1, e2, e3⟩ := HG31.out.free4
          have HGa := Lib.hid (HG31.out.store4 P)
          have HHa := Lib.hid (HH31.out.other4 (C := g) (Ne.symm hgh) (.int .u64 (P.a : Int)) (.int .u64 (P.b : Int)) (.int .u64 (P.c : Int)) (.int .u64 (P.d : Int)))
          have HWa := Lib.hid (HV31.out.store4 (C := g) hg2 (.int .u64 (P.a : Int)) (.int .u64 (P.b : Int)) (.int .u64 (P.c : Int)) (.int .u64 (P.d : Int)))
          clear hg hh
          refine HeadG.one (i := 8) rfl (by kernel_rfl) (by kernel_rfl) (fun K9 hK9 => ?_)
          go_simp
          refine hK9.out _ _ HWa.out ?_
          clear hK9 K9
          try simp only [Act.put, List.setIfInBounds_toArray, List.set_cons_zero, List.set_cons_succ, List.getElem_toArray, List.getElem_cons_zero, List.getElem_cons_succ]
          generalize hw : ((((V31.setCell ⟨g, 0, none⟩ (.int .u64 (P.a : Int))).setCell ⟨g, 1, none⟩ (.int .u64 (P.b : Int))).setCell ⟨g, 2, none⟩ (.int .u64 (P.c : Int))).setCell ⟨g, 3, none⟩ (.int .u64 (P.d : Int))) = Va at *
          clear hw g0 g1 g2 g3 e0 e1 e2 e3
          obtain ⟨g0, g1, g2, g3⟩ := HHa.out.cells4
          obtain ⟨e0, e1, e2, e3⟩ := HHa.out.free4
          have HHb := Lib.hid (HHa.out.store4 I)
          have HGb := Lib.hid (HGa.out.other4 (C := h) hgh (.int .u64 (I.a : Int)) (.int .u64 (I.b : Int)) (.int .u64 (I.c : Int)) (.int .u64 (I.d : Int)))
          have HWb := Lib.hid (HWa.out.store4 (C := h) hh2 (.int .u64 (I.a : Int)) (.int .u64 (I.b : Int)) (.int .u64 (I.c : Int)) (.int .u64 (I.d : Int)))
          refine HeadG.last (i := 9) rfl (by kernel_rfl) (by kernel_rfl) (by kernel_rfl) (fun K9 hK9 => ?_)
          go_simp
          refine hK9.out _ _ ?_
          clear hK9 K9
          try simp only [Act.put, List.setIfInBounds_toArray, List.set_cons_zero, List.set_cons_succ, List.getElem_toArray, List.getElem_cons_zero, List.getElem_cons_succ]
          go_wp2_with fail
          go_meet
          exact ⟨g, h, rfl, rfl, HGb, HHb, HWb⟩
      · go_simp
        have hOc : On V26 (V26.alloc (.cells #[.int .u64 0, .int .u64 0, .int .u64 0, .int .u64 0] 23)) := (On.refl HV26.out.tab).alloc _
        have HV32 := Lib.hid (HV26.out.trans hOc)
        have HG32 : Hid (Blk V26.heap.size (V26.alloc (.cells #[.int .u64 0, .int .u64 0, .int .u64 0, .int .u64 0] 23)) (fl4 (ix ⟨0, 0, 0, 0⟩))) := blk_new4 V26 0 0 0 0 23
        have HH32 := Lib.hid (HH26.out.on hOc)
        have hgh : V26.heap.size ≠ V0.heap.size := by have := HH26.out.1; omega
        refine hK9.out _ _ HV32.out ?_
        clear hK9 K9 hOc
        try simp only [Act.put, List.setIfInBounds_toArray, List.set_cons_zero, List.set_cons_succ, List.getElem_toArray, List.getElem_cons_zero, List.getElem_cons_succ]
        generalize hw : V26.alloc (.cells #[.int .u64 0, .int .u64 0, .int .u64 0, .int .u64 0] 23) = V32 at *
        clear hw
        refine HeadG.one (i := 2) rfl (by kernel_rfl) (by kernel_rfl) (fun K9 hK9 => ?_)
        go_simp
        go_at_call 17
        refine (HP1.out V32 HV32.out.tab).mono ?_
        rintro e V33 ⟨rfl, hOc⟩
        have HV33 := Lib.hid (HV32.out.trans hOc)
        have HG33 := Lib.hid (HG32.out.on hOc)
        have HH33 := Lib.hid (HH32.out.on hOc)
        clear hOc
        refine hK9.out _ _ HV33.out ?_
        clear hK9 K9
        try simp only [Act.put, List.setIfInBounds_toArray, List.set_cons_zero, List.set_cons_succ, List.getElem_toArray, List.getElem_cons_zero, List.getElem_cons_succ]
        refine HeadG.one (i := 5) rfl (by kernel_rfl) (by kernel_rfl) (fun K9 hK9 => ?_)
        go_simp
        go_at_call 19
        refine (HI1.out V33 HV33.out.tab (HU.out.on (HO2.out.trans HV33.out))).mono ?_
        rintro e V34 ⟨rfl, hOc⟩
        have HV34 := Lib.hid (HV33.out.trans hOc)
        have HG34 := Lib.hid (HG33.out.on hOc)
        have HH34 := Lib.hid (HH33.out.on hOc)
        clear hOc
        refine hK9.out _ _ HV34.out ?_
        clear hK9 K9
        try simp only [Act.put, List.setIfInBounds_toArray, List.set_cons_zero, List.set_cons_succ, List.getElem_toArray, List.getElem_cons_zero, List.getElem_cons_succ]
        obtain ⟨g, hg⟩ : ∃ g, g = V26.heap.size := ⟨_, rfl⟩
        obtain ⟨h, hh⟩ : ∃ h, h = V0.heap.size := ⟨_, rfl⟩
        have hg2 : w2.heap.size ≤ g := by rw [hg]; exact HV26.out.size
        have hh2 : w2.heap.size ≤ h := by rw [hh]; exact HV0.out.size
        rw [← hg, ← hh] at hgh
        rw [← hg] at HG34
        rw [← hh] at HH34
        rw [← hg, ← hh]
        obtain ⟨g0, g1, g2, g3⟩ := HG34.out.cells4
        obtain ⟨e0, e1, e2, e3⟩ := HG34.out.free4
        have HGa := Lib.hid (HG34.out.store4 P)
        have HHa := Lib.hid (HH34.out.other4 (C := g) (Ne.symm hgh) (.int .u64 (P.a : Int)) (.int .u64 (P.b : Int)) (.int .u64 (P.c : Int)) (.int .u64 (P.d : Int)))
        have HWa := Lib.hid (HV34.out.store4 (C := g) hg2 (.int .u64 (P.a : Int)) (.int .u64 (P.b : Int)) (.int .u64 (P.c : Int)) (.int .u64 (P.d : Int)))
        clear hg hh
        refine HeadG.one (i := 8) rfl (by kernel_rfl) (by kernel_rfl) (fun K9 hK9 => ?_)
        go_simp
        refine hK9.out _ _ HWa.out ?_
        clear hK9 K9
        try simp only [Act.put, List.setIfInBounds_toArray, List.set_cons_zero, List.set_cons_succ, List.getElem_toArray, List.getElem_cons_zero, List.getElem_cons_succ]
        generalize hw : ((((V34.setCell ⟨g, 0, none⟩ (.int .u64 (P.a : Int))).setCell ⟨g, 1, none⟩ (.int .u64 (P.b : Int))).setCell ⟨g, 2, none⟩ (.int .u64 (P.c : Int))).setCell ⟨g, 3, none⟩ (.int .u64 (P.d : Int))) = Va at *
        clear hw g0 g1 g2 g3 e0 e1 e2 e3
        obtain ⟨g0, g1, g2, g3⟩ := HHa.out.cells4
        obtain ⟨e0, e1, e2, e3⟩ := HHa.out.free4
        have HHb := Lib.hid (HHa.out.store4 I)
        have HGb := Lib.hid (HGa.out.other4 (C := h) hgh (.int .u64 (I.a : Int)) (.int .u64 (I.b : Int)) (.int .u64 (I.c : Int)) (.int .u64 (I.d : Int)))
        have HWb := Lib.hid (HWa.out.store4 (C := h) hh2 (.int .u64 (I.a : Int)) (.int .u64 (I.b : Int)) (.int .u64 (I.c : Int)) (.int .u64 (I.d : Int)))
        refine HeadG.last (i := 9) rfl (by kernel_rfl) (by kernel_rfl) (by kernel_rfl) (fun K9 hK9 => ?_)
        go_simp
        refine hK9.out _ _ ?_
        clear hK9 K9
        try simp only [Act.put, List.setIfInBounds_toArray, List.set_cons_zero, List.set_cons_succ, List.getElem_toArray, List.getElem_cons_zero, List.getElem_cons_succ]
        go_wp2_with fail
        go_meet
        exact ⟨g, h, rfl, rfl, HGb, HHb, HWb⟩
  case rest =>
    obtain ⟨g, h, rfl, rfl, HG, HH, HO3⟩ := hcut
    generalize wc = u at *
    have HTu : Hid (Blk w1.heap.size u (fl4 (ix t))) := HT2.out.on HO3.out
    have HOu := Lib.hid (HO2.out.trans HO3.out)
    have HUu := Lib.hid (HU.out.on HOu.out)
    have HK : Hid (∀ wq, On u wq → _) := fun wq hq => And.intro (HG.out.on hq).cells4 (And.intro (HH.out.on hq).cells4 (HTu.out.on hq).cells4)
    have HW1 : Hid (∀ wq, On u wq → Calls Tryd.prog 26 #[.int .i64 (F : Int), .agg #[.int .u64 (P.a : Int), .int .u64 (P.b : Int), .int .u64 (P.c : Int), .int .u64 (P.d : Int)]] wq fun e w' => e = .returned (.bool true) ∧ On u w') := fun wq h => (within_any (F : Int) P wq h.tab HV.out HPE.out).mono fun e w' ⟨he, ho⟩ => ⟨he, h.trans ho⟩
    have HW2 : Hid (∀ wq, On u wq → Calls Tryd.prog 26 #[.int .i64 (F : Int), .agg #[.int .u64 (I.a : Int), .int .u64 (I.b : Int), .int .u64 (I.c : Int), .int .u64 (I.d : Int)]] wq fun e w' => e = .returned (.bool true) ∧ On u w') := fun wq h => (within_any (F : Int) I wq h.tab HV.out HIE.out).mono fun e w' ⟨he, ho⟩ => ⟨he, h.trans ho⟩
    have HP2 : Hid (∀ wq, On u wq → Calls Tryd.prog 17 #[.int .i64 (F : Int), .agg #[.int .u64 (t.a : Int), .int .u64 (t.b : Int), .int .u64 (t.c : Int), .int .u64 (t.d : Int)]] wq fun e w' => e = .returned (.agg #[.int .u64 (P.a : Int), .int .u64 (P.b : Int), .int .u64 (P.c : Int), .int .u64 (P.d : Int)]) ∧ On u w') := fun wq h => (perm_k (F : Int) t P wq h.tab HV.out HTE.out.sm HPT.out).mono fun e w' ⟨he, ho⟩ => ⟨he, h.trans ho⟩
    have HI2 : Hid (∀ wq, On u wq → Calls Tryd.prog 19 #[.int .i64 (F : Int), .agg #[.int .u64 (t.a : Int), .int .u64 (t.b : Int), .int .u64 (t.c : Int), .int .u64 (t.d : Int)]] wq fun e w' => e = .returned (.agg #[.int .u64 (I.a : Int), .int .u64 (I.b : Int), .int .u64 (I.c : Int), .int .u64 (I.d : Int)]) ∧ On u w') := fun wq h => (inv_k (F : Int) t I wq h.tab (HUu.out.on h) HV.out HTE.out.sm HIT.out).mono fun e w' ⟨he, ho⟩ => ⟨he, h.trans ho⟩
    have HI3 : Hid (∀ wq, On u wq → Calls Tryd.prog 19 #[.int .i64 (F : Int), .agg #[.int .u64 (P.a : Int), .int .u64 (P.b : Int), .int .u64 (P.c : Int), .int .u64 (P.d : Int)]] wq fun e w' => e = .returned (.agg #[.int .u64 (t.a : Int), .int .u64 (t.b : Int), .int .u64 (t.c : Int), .int .u64 (t.d : Int)]) ∧ On u w') := fun wq h => (inv_k (F : Int) P t wq h.tab (HUu.out.on h) HV.out HPE.out.sm HIP.out).mono fun e w' ⟨he, ho⟩ => ⟨he, h.trans ho⟩
    have HP3 : Hid (∀ wq, On u wq → Calls Tryd.prog 17 #[.int .i64 (F : Int), .agg #[.int .u64 (I.a : Int), .int .u64 (I.b : Int), .int .u64 (I.c : Int), .int .u64 (I.d : Int)]] wq fun e w' => e = .returned (.agg #[.int .u64 (t.a : Int), .int .u64 (t.b : Int), .int .u64 (t.c : Int), .int .u64 (t.d : Int)]) ∧ On u w') := fun wq h => (perm_k (F : Int) I t wq h.tab HV.out HIE.out.sm HPI.out).mono fun e w' ⟨he, ho⟩ => ⟨he, h.trans ho⟩
    have HLV : Hid (∀ wq, On u wq → Calls Tryd.prog 16 #[] wq fun e w' => e = .returned (.bool true) ∧ On u w') := fun wq h => (lives_any wq h.tab).mono fun e w' ⟨he, ho⟩ => ⟨he, h.trans ho⟩
    have h4 := eq4
    clear HR HP1 HI1 HT2 HB2 HO3 HO2
    go_wp2_with fail
    refine region_keep_tail (fun wq => On u wq) 39 (by kernel_rfl) (by kernel_rfl) (On.refl HOu.out.tab).drew ?_
    simp only [List.take_succ_cons, List.take_zero, List.drop_succ_cons, List.drop_zero]
    refine BigFrame.wpQuiet_want (by rfl) (fun K hK => ?_)
    refine ⟨?qv0, fun wq hwq => ?qy0, hK _ ?qr0⟩
    case qy0 => (go_simp; try with_reducible rfl)
    clear hK K
    try simp only [Act.put, List.setIfInBounds_toArray, List.set_cons_zero, List.set_cons_succ]
    refine BigFrame.wpQuiet_want (by rfl) (fun K hK => ?_)
    refine ⟨?qv1, fun wq hwq => ?qy1, hK _ ?qr1⟩
    case qy1 => (obtain ⟨⟨a0, a1, a2, a3⟩, ⟨b0, b1, b2, b3⟩, d0, d1, d2, d3⟩ := HK.out wq hwq; go_simp; try with_reducible rfl)
    clear hK K
    try simp only [Act.put, List.setIfInBounds_toArray, List.set_cons_zero, List.set_cons_succ]
    refine BigFrame.wpQuiet_want (by rfl) (fun K hK => ?_)
    refine ⟨.bool true, fun wq hwq => ?qy2, hK _ ?qr2⟩
    case qy2 => (go_simp; go_at_call 26; exact HW1.out wq hwq)
    clear hK K
    try simp only [Act.put, List.setIfInBounds_toArray, List.set_cons_zero, List.set_cons_succ]
    refine BigFrame.wpQuiet_want (by rfl) (fun K hK => ?_)
    refine ⟨?qv3, fun wq hwq => ?qy3, hK _ ?qr3⟩
    case qy3 => (go_simp; try with_reducible rfl)
    clear hK K
    try simp only [Act.put, List.setIfInBounds_toArray, List.set_cons_zero, List.set_cons_succ]
    refine BigFrame.wpQuiet_want (by rfl) (fun K hK => ?_)
    refine ⟨?qv4, fun wq hwq => ?qy4, hK _ ?qr4⟩
    case qy4 => (go_simp; try with_reducible rfl)
    clear hK K
    try simp only [Act.put, List.setIfInBounds_toArray, List.set_cons_zero, List.set_cons_succ]
    refine BigFrame.wpQuiet_want (by rfl) (fun K hK => ?_)
    refine ⟨?qv5, fun wq hwq => ?qy5, hK _ ?qr5⟩
    case qy5 => (obtain ⟨⟨a0, a1, a2, a3⟩, ⟨b0, b1, b2, b3⟩, d0, d1, d2, d3⟩ := HK.out wq hwq; go_simp; try with_reducible rfl)
    clear hK K
    try simp only [Act.put, List.setIfInBounds_toArray, List.set_cons_zero, List.set_cons_succ]
    refine BigFrame.wpQuiet_want (by rfl) (fun K hK => ?_)
    refine ⟨.bool true, fun wq hwq => ?qy6, hK _ ?qr6⟩
    case qy6 => (go_simp; go_at_call 26; exact HW2.out wq hwq)
    clear hK K
    try simp only [Act.put, List.setIfInBounds_toArray, List.set_cons_zero, List.set_cons_succ]
    refine BigFrame.wpQuiet_want (by rfl) (fun K hK => ?_)
    refine ⟨?qv7, fun wq hwq => ?qy7, hK _ ?qr7⟩
    case qy7 => (go_simp; try with_reducible rfl)
    clear hK K
    try simp only [Act.put, List.setIfInBounds_toArray, List.set_cons_zero, List.set_cons_succ]
    refine BigFrame.wpQuiet_want (by rfl) (fun K hK => ?_)
    refine ⟨?qv8, fun wq hwq => ?qy8, hK _ ?qr8⟩
    case qy8 => (go_simp; try with_reducible rfl)
    clear hK K
    try simp only [Act.put, List.setIfInBounds_toArray, List.set_cons_zero, List.set_cons_succ]
    refine BigFrame.wpQuiet_want (by rfl) (fun K hK => ?_)
    refine ⟨?qv9, fun wq hwq => ?qy9, hK _ ?qr9⟩
    case qy9 => (obtain ⟨⟨a0, a1, a2, a3⟩, ⟨b0, b1, b2, b3⟩, d0, d1, d2, d3⟩ := HK.out wq hwq; go_simp; try with_reducible rfl)
    clear hK K
    try simp only [Act.put, List.setIfInBounds_toArray, List.set_cons_zero, List.set_cons_succ]
    refine BigFrame.wpQuiet_want (by rfl) (fun K hK => ?_)
    refine ⟨?qv10, fun wq hwq => ?qy10, hK _ ?qr10⟩
    case qy10 => (go_simp; try with_reducible rfl)
    clear hK K
    try simp only [Act.put, List.setIfInBounds_toArray, List.set_cons_zero, List.set_cons_succ]
    refine BigFrame.wpQuiet_want (by rfl) (fun K hK => ?_)
    refine ⟨?qv11, fun wq hwq => ?qy11, hK _ ?qr11⟩
    case qy11 => (obtain ⟨⟨a0, a1, a2, a3⟩, ⟨b0, b1, b2, b3⟩, d0, d1, d2, d3⟩ := HK.out wq hwq; go_simp; try with_reducible rfl)
    clear hK K
    try simp only [Act.put, List.setIfInBounds_toArray, List.set_cons_zero, List.set_cons_succ]
    refine BigFrame.wpQuiet_want (by rfl) (fun K hK => ?_)
    refine ⟨.agg #[.int .u64 (P.a : Int), .int .u64 (P.b : Int), .int .u64 (P.c : Int), .int .u64 (P.d : Int)], fun wq hwq => ?qy12, hK _ ?qr12⟩
    case qy12 => (go_simp; go_at_call 17; exact HP2.out wq hwq)
    clear hK K
    try simp only [Act.put, List.setIfInBounds_toArray, List.set_cons_zero, List.set_cons_succ]
    refine BigFrame.wpQuiet_want (by rfl) (fun K hK => ?_)
    refine ⟨.bool true, fun wq hwq => ?qy13, hK _ ?qr13⟩
    case qy13 => (go_simp; try simp)
    clear hK K
    try simp only [Act.put, List.setIfInBounds_toArray, List.set_cons_zero, List.set_cons_succ]
    refine BigFrame.wpQuiet_want (by rfl) (fun K hK => ?_)
    refine ⟨?qv14, fun wq hwq => ?qy14, hK _ ?qr14⟩
    case qy14 => (go_simp; try with_reducible rfl)
    clear hK K
    try simp only [Act.put, List.setIfInBounds_toArray, List.set_cons_zero, List.set_cons_succ]
    refine BigFrame.wpQuiet_want (by rfl) (fun K hK => ?_)
    refine ⟨?qv15, fun wq hwq => ?qy15, hK _ ?qr15⟩
    case qy15 => (go_simp; try with_reducible rfl)
    clear hK K
    try simp only [Act.put, List.setIfInBounds_toArray, List.set_cons_zero, List.set_cons_succ]
    refine BigFrame.wpQuiet_want (by rfl) (fun K hK => ?_)
    refine ⟨?qv16, fun wq hwq => ?qy16, hK _ ?qr16⟩
    case qy16 => (obtain ⟨⟨a0, a1, a2, a3⟩, ⟨b0, b1, b2, b3⟩, d0, d1, d2, d3⟩ := HK.out wq hwq; go_simp; try with_reducible rfl)
    clear hK K
    try simp only [Act.put, List.setIfInBounds_toArray, List.set_cons_zero, List.set_cons_succ]
    refine BigFrame.wpQuiet_want (by rfl) (fun K hK => ?_)
    refine ⟨?qv17, fun wq hwq => ?qy17, hK _ ?qr17⟩
    case qy17 => (go_simp; try with_reducible rfl)
    clear hK K
    try simp only [Act.put, List.setIfInBounds_toArray, List.set_cons_zero, List.set_cons_succ]
    refine BigFrame.wpQuiet_want (by rfl) (fun K hK => ?_)
    refine ⟨?qv18, fun wq hwq => ?qy18, hK _ ?qr18⟩
    case qy18 => (obtain ⟨⟨a0, a1, a2, a3⟩, ⟨b0, b1, b2, b3⟩, d0, d1, d2, d3⟩ := HK.out wq hwq; go_simp; try with_reducible rfl)
    clear hK K
    try simp only [Act.put, List.setIfInBounds_toArray, List.set_cons_zero, List.set_cons_succ]
    refine BigFrame.wpQuiet_want (by rfl) (fun K hK => ?_)
    refine ⟨.agg #[.int .u64 (I.a : Int), .int .u64 (I.b : Int), .int .u64 (I.c : Int), .int .u64 (I.d : Int)], fun wq hwq => ?qy19, hK _ ?qr19⟩
    case qy19 => (go_simp; go_at_call 19; exact HI2.out wq hwq)
    clear hK K
    try simp only [Act.put, List.setIfInBounds_toArray, List.set_cons_zero, List.set_cons_succ]
    refine BigFrame.wpQuiet_want (by rfl) (fun K hK => ?_)
    refine ⟨.bool true, fun wq hwq => ?qy20, hK _ ?qr20⟩
    case qy20 => (go_simp; try simp)
    clear hK K
    try simp only [Act.put, List.setIfInBounds_toArray, List.set_cons_zero, List.set_cons_succ]
    refine BigFrame.wpQuiet_want (by rfl) (fun K hK => ?_)
    refine ⟨?qv21, fun wq hwq => ?qy21, hK _ ?qr21⟩
    case qy21 => (go_simp; try with_reducible rfl)
    clear hK K
    try simp only [Act.put, List.setIfInBounds_toArray, List.set_cons_zero, List.set_cons_succ]
    refine BigFrame.wpQuiet_want (by rfl) (fun K hK => ?_)
    refine ⟨?qv22, fun wq hwq => ?qy22, hK _ ?qr22⟩
    case qy22 => (go_simp; try with_reducible rfl)
    clear hK K
    try simp only [Act.put, List.setIfInBounds_toArray, List.set_cons_zero, List.set_cons_succ]
    refine BigFrame.wpQuiet_want (by rfl) (fun K hK => ?_)
    refine ⟨?qv23, fun wq hwq => ?qy23, hK _ ?qr23⟩
    case qy23 => (go_simp; try with_reducible rfl)
    clear hK K
    try simp only [Act.put, List.setIfInBounds_toArray, List.set_cons_zero, List.set_cons_succ]
    refine BigFrame.wpQuiet_want (by rfl) (fun K hK => ?_)
    refine ⟨?qv24, fun wq hwq => ?qy24, hK _ ?qr24⟩
    case qy24 => (obtain ⟨⟨a0, a1, a2, a3⟩, ⟨b0, b1, b2, b3⟩, d0, d1, d2, d3⟩ := HK.out wq hwq; go_simp; try with_reducible rfl)
    clear hK K
    try simp only [Act.put, List.setIfInBounds_toArray, List.set_cons_zero, List.set_cons_succ]
    refine BigFrame.wpQuiet_want (by rfl) (fun K hK => ?_)
    refine ⟨.agg #[.int .u64 (t.a : Int), .int .u64 (t.b : Int), .int .u64 (t.c : Int), .int .u64 (t.d : Int)], fun wq hwq => ?qy25, hK _ ?qr25⟩
    case qy25 => (go_simp; go_at_call 19; exact HI3.out wq hwq)
    clear hK K
    try simp only [Act.put, List.setIfInBounds_toArray, List.set_cons_zero, List.set_cons_succ]
    refine BigFrame.wpQuiet_want (by rfl) (fun K hK => ?_)
    refine ⟨?qv26, fun wq hwq => ?qy26, hK _ ?qr26⟩
    case qy26 => (obtain ⟨⟨a0, a1, a2, a3⟩, ⟨b0, b1, b2, b3⟩, d0, d1, d2, d3⟩ := HK.out wq hwq; go_simp; try with_reducible rfl)
    clear hK K
    try simp only [Act.put, List.setIfInBounds_toArray, List.set_cons_zero, List.set_cons_succ]
    refine BigFrame.wpQuiet_want (by rfl) (fun K hK => ?_)
    refine ⟨.bool true, fun wq hwq => ?qy27, hK _ ?qr27⟩
    case qy27 => (go_simp; try simp)
    clear hK K
    try simp only [Act.put, List.setIfInBounds_toArray, List.set_cons_zero, List.set_cons_succ]
    refine BigFrame.wpQuiet_want (by rfl) (fun K hK => ?_)
    refine ⟨?qv28, fun wq hwq => ?qy28, hK _ ?qr28⟩
    case qy28 => (go_simp; try with_reducible rfl)
    clear hK K
    try simp only [Act.put, List.setIfInBounds_toArray, List.set_cons_zero, List.set_cons_succ]
    refine BigFrame.wpQuiet_want (by rfl) (fun K hK => ?_)
    refine ⟨?qv29, fun wq hwq => ?qy29, hK _ ?qr29⟩
    case qy29 => (go_simp; try with_reducible rfl)
    clear hK K
    try simp only [Act.put, List.setIfInBounds_toArray, List.set_cons_zero, List.set_cons_succ]
    refine BigFrame.wpQuiet_want (by rfl) (fun K hK => ?_)
    refine ⟨?qv30, fun wq hwq => ?qy30, hK _ ?qr30⟩
    case qy30 => (go_simp; try with_reducible rfl)
    clear hK K
    try simp only [Act.put, List.setIfInBounds_toArray, List.set_cons_zero, List.set_cons_succ]
    refine BigFrame.wpQuiet_want (by rfl) (fun K hK => ?_)
    refine ⟨?qv31, fun wq hwq => ?qy31, hK _ ?qr31⟩
    case qy31 => (obtain ⟨⟨a0, a1, a2, a3⟩, ⟨b0, b1, b2, b3⟩, d0, d1, d2, d3⟩ := HK.out wq hwq; go_simp; try with_reducible rfl)
    clear hK K
    try simp only [Act.put, List.setIfInBounds_toArray, List.set_cons_zero, List.set_cons_succ]
    refine BigFrame.wpQuiet_want (by rfl) (fun K hK => ?_)
    refine ⟨.agg #[.int .u64 (t.a : Int), .int .u64 (t.b : Int), .int .u64 (t.c : Int), .int .u64 (t.d : Int)], fun wq hwq => ?qy32, hK _ ?qr32⟩
    case qy32 => (go_simp; go_at_call 17; exact HP3.out wq hwq)
    clear hK K
    try simp only [Act.put, List.setIfInBounds_toArray, List.set_cons_zero, List.set_cons_succ]
    refine BigFrame.wpQuiet_want (by rfl) (fun K hK => ?_)
    refine ⟨?qv33, fun wq hwq => ?qy33, hK _ ?qr33⟩
    case qy33 => (obtain ⟨⟨a0, a1, a2, a3⟩, ⟨b0, b1, b2, b3⟩, d0, d1, d2, d3⟩ := HK.out wq hwq; go_simp; try with_reducible rfl)
    clear hK K
    try simp only [Act.put, List.setIfInBounds_toArray, List.set_cons_zero, List.set_cons_succ]
    refine BigFrame.wpQuiet_want (by rfl) (fun K hK => ?_)
    refine ⟨.bool true, fun wq hwq => ?qy34, hK _ ?qr34⟩
    case qy34 => (go_simp; try simp)
    clear hK K
    try simp only [Act.put, List.setIfInBounds_toArray, List.set_cons_zero, List.set_cons_succ]
    refine BigFrame.wpQuiet_want (by rfl) (fun K hK => ?_)
    refine ⟨?qv35, fun wq hwq => ?qy35, hK _ ?qr35⟩
    case qy35 => (go_simp; try with_reducible rfl)
    clear hK K
    try simp only [Act.put, List.setIfInBounds_toArray, List.set_cons_zero, List.set_cons_succ]
    refine BigFrame.wpQuiet_want (by rfl) (fun K hK => ?_)
    refine ⟨?qv36, fun wq hwq => ?qy36, hK _ ?qr36⟩
    case qy36 => (go_simp; try with_reducible rfl)
    clear hK K
    try simp only [Act.put, List.setIfInBounds_toArray, List.set_cons_zero, List.set_cons_succ]
    refine BigFrame.wpQuiet_want (by rfl) (fun K hK => ?_)
    refine ⟨.bool true, fun wq hwq => ?qy37, hK _ ?qr37⟩
    case qy37 => (go_simp; go_at_call 16; exact HLV.out wq hwq)
    clear hK K
    try simp only [Act.put, List.setIfInBounds_toArray, List.set_cons_zero, List.set_cons_succ]
    refine BigFrame.wpQuiet_want (by rfl) (fun K hK => ?_)
    refine ⟨?qv38, fun wq hwq => ?qy38, hK _ ?qr38⟩
    case qy38 => (go_simp; try with_reducible rfl)
    clear hK K
    try simp only [Act.put, List.setIfInBounds_toArray, List.set_cons_zero, List.set_cons_succ]
    refine wpQuiet_nil ?_
    intro wz HOz
    have HOz := Lib.hid HOz
    go_wp2
    go_ret
    exact ⟨rfl, HOu.out.trans HOz.out⟩
end Go.Proofs.YtbmieoedpgdlpaaDoor
