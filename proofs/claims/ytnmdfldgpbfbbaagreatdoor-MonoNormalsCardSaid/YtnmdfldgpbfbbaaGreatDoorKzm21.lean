/- Package mono: Mul. -/
import Derived.Test.YtnmdfldgpbfbbaaGreatDoorKzm17
import Derived.Deep.RegionWith
import Derived.Test.YtnmdfldgpbfbbaaGreatDoorKzm18
import Derived.Test.YtnmdfldgpbfbbaaGreatDoorKzm20
set_option linter.unusedSimpArgs false
set_option linter.unusedVariables false
/- Package mono: Mul. -/
namespace Go.Proofs.YtnmdfldgpbfbbaaGreatDoor
open Go.Shelf Go.RowKit Go.Lib Go.Sort
set_option linter.unusedVariables false

def F2 (l m : List Vr) : Nat → List Vr := fun j => if j = 0 then l else m
theorem catF_two (l m : List Vr) : catF (F2 l m) 2 = l ++ m := by simp [catF, F2]
theorem vls_two {w : World} {b : Nat} {a a2 : Option Addr} {n c n2 c2 : Nat} {l m : List Vr} (h1 : w.cell? ⟨b, 0, none⟩ = some (.slice a n c)) (h2 : w.cell? ⟨b, 1, none⟩ = some (.slice a2 n2 c2)) (hl : VRd w (.slice a n c) l) (hm : VRd w (.slice a2 n2 c2) m) : VLs w (.slice (some ⟨b, 0, none⟩) 2 2) 2 (F2 l m) :=
  ⟨_, _, rfl, by omega, fun j hj => by
    rcases (show j = 0 ∨ j = 1 by omega) with rfl | rfl
    · exact ⟨b, 0, _, rfl, h1, hl⟩
    · exact ⟨b, 0, _, rfl, h2, hm⟩⟩
set_option maxRecDepth 100000 in
set_option maxHeartbeats 2000000 in
theorem mul1_any {W0 : World} (X : Nat → Prop) (C Bc Bf : Nat) (f : Int) (L : List Mo) (c d : Nat) (l m : List Vr) (al bl : Option Addr) (cl dl : Nat) (w : World) (hO : On W0 w) (hP : Pw w) (hCol : Col X W0.heap.size C f w L) (hl : VRd w (.slice al l.length cl) l) (hm : VRd w (.slice bl m.length dl) m)
    (hN : l.length + m.length ≤ 1000000) (hL : L.length ≤ 1000000) (hc : c ≤ 18446744073709551615) (hd : d ≤ 18446744073709551615) (hBc : w.cell? ⟨Bc, 0, none⟩ = some (.pointer (some ⟨C, 0, none⟩))) (hBf : w.cell? ⟨Bf, 0, none⟩ = some (.int .i64 f)) :
    Calls Tryz.prog 39 #[moV c al l.length cl, moV d bl m.length dl, .pointer (some ⟨Bc, 0, none⟩), .pointer (some ⟨Bf, 0, none⟩)] w fun e w' => e = .returned (.tuple #[]) ∧ Col X W0.heap.size C f w' (addM f L (mulF f c d) (l ++ m)) ∧ On W0 w' ∧ ∀ g, X g → w'.heap[g]? = w.heap[g]? := by
  obtain ⟨w2, hw2⟩ : ∃ w2, w2 = (w.alloc (.cells #[.int .u64 ((c : Nat) : Int), .slice al l.length cl] 34)).alloc (.cells #[.int .u64 ((d : Nat) : Int), .slice bl m.length dl] 34) := ⟨_, rfl⟩
  have hOw : On w w2 := by rw [hw2]; exact ((On.refl hO.tab).alloc _).alloc _
  have hsz : w2.heap.size = w.heap.size + 2 := by rw [hw2]; simp
  have x0 : w2.cell? ⟨w.heap.size, 0, none⟩ = some (.int .u64 ((c : Nat) : Int)) := by rw [hw2, World.cell?_alloc_past _ _ _ (by simp), World.cell?_alloc_new]; rfl
  have x1 : w2.cell? ⟨w.heap.size, 1, none⟩ = some (.slice al l.length cl) := by rw [hw2, World.cell?_alloc_past _ _ _ (by simp), World.cell?_alloc_new]; rfl
  have y0 : w2.cell? ⟨w.heap.size + 1, 0, none⟩ = some (.int .u64 ((d : Nat) : Int)) := by rw [hw2, World.cell?_alloc_at _ _ (w.heap.size + 1) 0 (by simp)]; rfl
  have y1 : w2.cell? ⟨w.heap.size + 1, 1, none⟩ = some (.slice bl m.length dl) := by rw [hw2, World.cell?_alloc_at _ _ (w.heap.size + 1) 1 (by simp)]; rfl
  have hbc := (hOw.cell (p := ⟨Bc, 0, none⟩) (cell_size hBc)).trans hBc
  have hbf := (hOw.cell (p := ⟨Bf, 0, none⟩) (cell_size hBf)).trans hBf
  have hC2 := hCol.on hOw
  have hO2 := hO.trans hOw
  have hP2 := hP.on hOw
  have hl2 := hl.on hOw
  have hm2 := hm.on hOw
  have hmul := mulF_le f c d
  have HMU := Lib.hid (fun W hT => mul_any f c d W hT hc hd)
  have HXW : Hid (∀ g, X g → w2.heap[g]? = w.heap[g]?) := fun g hg => by
    obtain ⟨_, _, _, _, _, _, _, _, _, _, h6⟩ := hCol; exact hOw.2.block g (h6 g hg).1
  have HADD : Hid (∀ W, On w2 W → ∀ b, W.cell? ⟨b, 0, none⟩ = some (.slice al l.length cl) → W.cell? ⟨b, 1, none⟩ = some (.slice bl m.length dl) →
      Calls Tryz.prog 18 #[.pointer (some ⟨C, 0, none⟩), .int .u64 ((mulF f c d : Nat) : Int), .slice (some ⟨b, 0, none⟩) 2 2] W fun e w' => e = .returned (.tuple #[]) ∧ Col X W0.heap.size C f w' (addM f L (mulF f c d) (l ++ m)) ∧ On W0 w' ∧ ∀ g, X g → w'.heap[g]? = w.heap[g]?) := fun W hW b h1 h2 => by
    have hcat := catF_two l m
    have h := cadd_any (W0 := W0) X C f L (mulF f c d) (F2 l m) 2 (.slice (some ⟨b, 0, none⟩) 2 2) W (hO2.trans hW) (hP2.on hW) (hC2.on hW) (vls_two h1 h2 (hl2.on hW) (hm2.on hW)) (by rw [hcat]; intro x hx; rcases List.mem_append.1 hx with hx | hx; exact hl.1 x hx; exact hm.1 x hx) (by rw [hcat, List.length_append]; exact hN) hL (by omega)
    rw [hcat] at h
    refine h.mono fun e w' ⟨h1, h2, h3, h4⟩ => ⟨h1, h2, h3, fun g hg => (h4 g hg).trans ?_⟩
    have : W.heap[g]? = w2.heap[g]? := hW.2.block g (by obtain ⟨_, _, _, _, _, _, _, _, _, _, h6⟩ := hC2; exact (h6 g hg).1)
    exact this.trans (HXW.out g hg)
  have HO22 := Lib.hid (On.refl hO2.tab)
  have HW2 := Lib.hid hw2
  have HSZ := Lib.hid hsz
  clear hCol hO hP hl hm hBc hBf hC2 hO2 hP2 hl2 hm2 hOw hw2 HXW hsz
  generalize l.length = ln at *
  generalize m.length = mn at *
  go_enter Tryz.func39, Tryz.ntmps39
  go_upto_region 1 with fail
  rw [← HW2.out]
  refine region_head_tail (S := fun wq => On w2 wq) 12 (by kernel_rfl) (by kernel_rfl) ?_
  obtain ⟨V0, hV0⟩ : ∃ V0, V0 = w2.drew := ⟨_, rfl⟩
  have hSd : On w2 V0 := by rw [hV0]; exact HO22.out.drew
  rw [← hV0]
  clear hV0
  refine HeadG.take (i := 0) (v := ?hev1z0) rfl (by kernel_rfl) (by kernel_rfl) (by kernel_rfl) (by kernel_rfl) (by kernel_rfl) (by kernel_rfl) (by kernel_rfl) (fun _ _ _ h => h) (Or.inl ⟨by kernel_rfl, ?hey1z0⟩) hSd ?her1z0
  case hey1z0 => (intro w' hSw; have k0 := (hSw.cell (p := ⟨Bc, 0, none⟩) (cell_size hbc)).trans hbc; have k1 := (hSw.cell (p := ⟨Bf, 0, none⟩) (cell_size hbf)).trans hbf; have k2 := (hSw.cell (p := ⟨w.heap.size, 0, none⟩) (cell_size x0)).trans x0; have k3 := (hSw.cell (p := ⟨w.heap.size, 1, none⟩) (cell_size x1)).trans x1; have k4 := (hSw.cell (p := ⟨w.heap.size + 1, 0, none⟩) (cell_size y0)).trans y0; have k5 := (hSw.cell (p := ⟨w.heap.size + 1, 1, none⟩) (cell_size y1)).trans y1; go_simp; try with_reducible rfl)
  try simp only [Act.put, List.setIfInBounds_toArray, List.set_cons_zero, List.set_cons_succ, List.getElem_toArray, List.getElem_cons_zero, List.getElem_cons_succ]
  refine HeadG.take (i := 1) (v := ?hev2z1) rfl (by kernel_rfl) (by kernel_rfl) (by kernel_rfl) (by kernel_rfl) (by kernel_rfl) (by kernel_rfl) (by kernel_rfl) (fun _ _ _ h => h) (Or.inl ⟨by kernel_rfl, ?hey2z1⟩) hSd ?her2z1
  case hey2z1 => (intro w' hSw; have k0 := (hSw.cell (p := ⟨Bc, 0, none⟩) (cell_size hbc)).trans hbc; have k1 := (hSw.cell (p := ⟨Bf, 0, none⟩) (cell_size hbf)).trans hbf; have k2 := (hSw.cell (p := ⟨w.heap.size, 0, none⟩) (cell_size x0)).trans x0; have k3 := (hSw.cell (p := ⟨w.heap.size, 1, none⟩) (cell_size x1)).trans x1; have k4 := (hSw.cell (p := ⟨w.heap.size + 1, 0, none⟩) (cell_size y0)).trans y0; have k5 := (hSw.cell (p := ⟨w.heap.size + 1, 1, none⟩) (cell_size y1)).trans y1; go_simp; try with_reducible rfl)
  try simp only [Act.put, List.setIfInBounds_toArray, List.set_cons_zero, List.set_cons_succ, List.getElem_toArray, List.getElem_cons_zero, List.getElem_cons_succ]
  refine HeadG.take (i := 2) (v := ?hev3z2) rfl (by kernel_rfl) (by kernel_rfl) (by kernel_rfl) (by kernel_rfl) (by kernel_rfl) (by kernel_rfl) (by kernel_rfl) (fun _ _ _ h => h) (Or.inl ⟨by kernel_rfl, ?hey3z2⟩) hSd ?her3z2
  case hey3z2 => (intro w' hSw; skip; go_simp; try with_reducible rfl)
  try simp only [Act.put, List.setIfInBounds_toArray, List.set_cons_zero, List.set_cons_succ, List.getElem_toArray, List.getElem_cons_zero, List.getElem_cons_succ]
  refine HeadG.take (i := 3) (v := ?hev4z3) rfl (by kernel_rfl) (by kernel_rfl) (by kernel_rfl) (by kernel_rfl) (by kernel_rfl) (by kernel_rfl) (by kernel_rfl) (fun _ _ _ h => h) (Or.inl ⟨by kernel_rfl, ?hey4z3⟩) hSd ?her4z3
  case hey4z3 => (intro w' hSw; have k0 := (hSw.cell (p := ⟨Bc, 0, none⟩) (cell_size hbc)).trans hbc; have k1 := (hSw.cell (p := ⟨Bf, 0, none⟩) (cell_size hbf)).trans hbf; have k2 := (hSw.cell (p := ⟨w.heap.size, 0, none⟩) (cell_size x0)).trans x0; have k3 := (hSw.cell (p := ⟨w.heap.size, 1, none⟩) (cell_size x1)).trans x1; have k4 := (hSw.cell (p := ⟨w.heap.size + 1, 0, none⟩) (cell_size y0)).trans y0; have k5 := (hSw.cell (p := ⟨w.heap.size + 1, 1, none⟩) (cell_size y1)).trans y1; go_simp; try with_reducible rfl)
  try simp only [Act.put, List.setIfInBounds_toArray, List.set_cons_zero, List.set_cons_succ, List.getElem_toArray, List.getElem_cons_zero, List.getElem_cons_succ]
  refine HeadG.take (i := 4) (v := ?hev5z4) rfl (by kernel_rfl) (by kernel_rfl) (by kernel_rfl) (by kernel_rfl) (by kernel_rfl) (by kernel_rfl) (by kernel_rfl) (fun _ _ _ h => h) (Or.inl ⟨by kernel_rfl, ?hey5z4⟩) hSd ?her5z4
  case hey5z4 => (intro w' hSw; skip; go_simp; try with_reducible rfl)
  try simp only [Act.put, List.setIfInBounds_toArray, List.set_cons_zero, List.set_cons_succ, List.getElem_toArray, List.getElem_cons_zero, List.getElem_cons_succ]
  refine HeadG.take (i := 5) (v := ?hev6z5) rfl (by kernel_rfl) (by kernel_rfl) (by kernel_rfl) (by kernel_rfl) (by kernel_rfl) (by kernel_rfl) (by kernel_rfl) (fun _ _ _ h => h) (Or.inl ⟨by kernel_rfl, ?hey6z5⟩) hSd ?her6z5
  case hey6z5 => (intro w' hSw; have k0 := (hSw.cell (p := ⟨Bc, 0, none⟩) (cell_size hbc)).trans hbc; have k1 := (hSw.cell (p := ⟨Bf, 0, none⟩) (cell_size hbf)).trans hbf; have k2 := (hSw.cell (p := ⟨w.heap.size, 0, none⟩) (cell_size x0)).trans x0; have k3 := (hSw.cell (p := ⟨w.heap.size, 1, none⟩) (cell_size x1)).trans x1; have k4 := (hSw.cell (p := ⟨w.heap.size + 1, 0, none⟩) (cell_size y0)).trans y0; have k5 := (hSw.cell (p := ⟨w.heap.size + 1, 1, none⟩) (cell_size y1)).trans y1; go_simp; try with_reducible rfl)
  try simp only [Act.put, List.setIfInBounds_toArray, List.set_cons_zero, List.set_cons_succ, List.getElem_toArray, List.getElem_cons_zero, List.getElem_cons_succ]
  refine HeadG.take (i := 7) (v := ?hev7z7) rfl (by kernel_rfl) (by kernel_rfl) (by kernel_rfl) (by kernel_rfl) (by kernel_rfl) (by kernel_rfl) (by kernel_rfl) (fun _ _ _ h => h) (Or.inl ⟨by kernel_rfl, ?hey7z7⟩) hSd ?her7z7
  case hey7z7 => (intro w' hSw; skip; go_simp; try with_reducible rfl)
  try simp only [Act.put, List.setIfInBounds_toArray, List.set_cons_zero, List.set_cons_succ, List.getElem_toArray, List.getElem_cons_zero, List.getElem_cons_succ]
  refine HeadG.take (i := 8) (v := ?hev8z8) rfl (by kernel_rfl) (by kernel_rfl) (by kernel_rfl) (by kernel_rfl) (by kernel_rfl) (by kernel_rfl) (by kernel_rfl) (fun _ _ _ h => h) (Or.inl ⟨by kernel_rfl, ?hey8z8⟩) hSd ?her8z8
  case hey8z8 => (intro w' hSw; have k0 := (hSw.cell (p := ⟨Bc, 0, none⟩) (cell_size hbc)).trans hbc; have k1 := (hSw.cell (p := ⟨Bf, 0, none⟩) (cell_size hbf)).trans hbf; have k2 := (hSw.cell (p := ⟨w.heap.size, 0, none⟩) (cell_size x0)).trans x0; have k3 := (hSw.cell (p := ⟨w.heap.size, 1, none⟩) (cell_size x1)).trans x1; have k4 := (hSw.cell (p := ⟨w.heap.size + 1, 0, none⟩) (cell_size y0)).trans y0; have k5 := (hSw.cell (p := ⟨w.heap.size + 1, 1, none⟩) (cell_size y1)).trans y1; go_simp; try with_reducible rfl)
  try simp only [Act.put, List.setIfInBounds_toArray, List.set_cons_zero, List.set_cons_succ, List.getElem_toArray, List.getElem_cons_zero, List.getElem_cons_succ]
  refine HeadG.take (i := 9) (v := ?hev9z9) rfl (by kernel_rfl) (by kernel_rfl) (by kernel_rfl) (by kernel_rfl) (by kernel_rfl) (by kernel_rfl) (by kernel_rfl) (fun _ _ _ h => h) (Or.inl ⟨by kernel_rfl, ?hey9z9⟩) hSd ?her9z9
  case hey9z9 => (intro w' hSw; skip; go_simp; try with_reducible rfl)
  try simp only [Act.put, List.setIfInBounds_toArray, List.set_cons_zero, List.set_cons_succ, List.getElem_toArray, List.getElem_cons_zero, List.getElem_cons_succ]
  refine HeadG.take (i := 10) (v := ?hev10z10) rfl (by kernel_rfl) (by kernel_rfl) (by kernel_rfl) (by kernel_rfl) (by kernel_rfl) (by kernel_rfl) (by kernel_rfl) (fun _ _ _ h => h) (Or.inl ⟨by kernel_rfl, ?hey10z10⟩) hSd ?her10z10
  case hey10z10 => (intro w' hSw; have k0 := (hSw.cell (p := ⟨Bc, 0, none⟩) (cell_size hbc)).trans hbc; have k1 := (hSw.cell (p := ⟨Bf, 0, none⟩) (cell_size hbf)).trans hbf; have k2 := (hSw.cell (p := ⟨w.heap.size, 0, none⟩) (cell_size x0)).trans x0; have k3 := (hSw.cell (p := ⟨w.heap.size, 1, none⟩) (cell_size x1)).trans x1; have k4 := (hSw.cell (p := ⟨w.heap.size + 1, 0, none⟩) (cell_size y0)).trans y0; have k5 := (hSw.cell (p := ⟨w.heap.size + 1, 1, none⟩) (cell_size y1)).trans y1; go_simp; try with_reducible rfl)
  try simp only [Act.put, List.setIfInBounds_toArray, List.set_cons_zero, List.set_cons_succ, List.getElem_toArray, List.getElem_cons_zero, List.getElem_cons_succ]
  refine HeadG.fork2 (i := 6) (j := 11) rfl rfl (by kernel_rfl) (by kernel_rfl) (by kernel_rfl) (fun K9 hK9 => ?_) (fun K9 hK9 => ?_)
  · have HTT := hSd.tab
    go_simp
    go_at_call 37
    with_reducible refine (HMU.out _ HTT).mono ?_
    rintro e wm ⟨rfl, rfl⟩
    refine hK9.out _ _ hSd ?_
    clear hK9 K9
    try simp only [Act.put, List.setIfInBounds_toArray, List.set_cons_zero, List.set_cons_succ, List.getElem_toArray, List.getElem_cons_zero, List.getElem_cons_succ]
    refine HeadG.one (i := 11) rfl (by kernel_rfl) (by kernel_rfl) (fun K9 hK9 => ?_)
    go_simp
    refine hK9.out _ _ (hSd.alloc _) ?_
    clear hK9 K9
    try simp only [Act.put, List.setIfInBounds_toArray, List.set_cons_zero, List.set_cons_succ, List.getElem_toArray, List.getElem_cons_zero, List.getElem_cons_succ]
    refine HeadG.last (i := 12) rfl (by kernel_rfl) (by kernel_rfl) (by kernel_rfl) (fun K9 hK9 => ?_)
    go_simp
    go_at_call 18
    refine (HADD.out _ (hSd.alloc _) V0.heap.size (by rw [World.cell?_alloc_new]; rfl) (by rw [World.cell?_alloc_new]; rfl)).mono ?_
    rintro e w9 ⟨rfl, h2, h3, h4⟩
    refine hK9.out _ _ ?_
    clear hK9 K9
    try simp only [Act.put, List.setIfInBounds_toArray, List.set_cons_zero, List.set_cons_succ, List.getElem_toArray, List.getElem_cons_zero, List.getElem_cons_succ]
    go_wp2
    go_end0
    exact ⟨rfl, h2, h3, h4⟩
  · go_simp
    refine hK9.out _ _ (hSd.alloc _) ?_
    clear hK9 K9
    try simp only [Act.put, List.setIfInBounds_toArray, List.set_cons_zero, List.set_cons_succ, List.getElem_toArray, List.getElem_cons_zero, List.getElem_cons_succ]
    refine HeadG.one (i := 6) rfl (by kernel_rfl) (by kernel_rfl) (fun K9 hK9 => ?_)
    have HTT := (hSd.alloc (.cells #[.slice al ln cl, .slice bl mn dl] 32)).tab
    go_simp
    go_at_call 37
    with_reducible refine (HMU.out _ HTT).mono ?_
    rintro e wm ⟨rfl, rfl⟩
    refine hK9.out _ _ (hSd.alloc _) ?_
    clear hK9 K9
    try simp only [Act.put, List.setIfInBounds_toArray, List.set_cons_zero, List.set_cons_succ, List.getElem_toArray, List.getElem_cons_zero, List.getElem_cons_succ]
    refine HeadG.last (i := 12) rfl (by kernel_rfl) (by kernel_rfl) (by kernel_rfl) (fun K9 hK9 => ?_)
    go_simp
    go_at_call 18
    refine (HADD.out _ (hSd.alloc _) V0.heap.size (by rw [World.cell?_alloc_new]; rfl) (by rw [World.cell?_alloc_new]; rfl)).mono ?_
    rintro e w9 ⟨rfl, h2, h3, h4⟩
    refine hK9.out _ _ ?_
    clear hK9 K9
    try simp only [Act.put, List.setIfInBounds_toArray, List.set_cons_zero, List.set_cons_succ, List.getElem_toArray, List.getElem_cons_zero, List.getElem_cons_succ]
    go_wp2
    go_end0
    exact ⟨rfl, h2, h3, h4⟩
end Go.Proofs.YtnmdfldgpbfbbaaGreatDoor

/- Package mono: Mul, the loops. -/
namespace Go.Proofs.YtnmdfldgpbfbbaaGreatDoor
open Go.Shelf Go.RowKit Go.Lib Go.Sort
set_option linter.unusedVariables false

def rowS (f : Int) (x : Mo) (b : List Mo) : List Mo := b.map fun y => (mulF f x.1 y.1, x.2 ++ y.2)
theorem prodS_snoc (f : Int) (a b : List Mo) (k : Nat) (h : k < a.length) : prodS f (a.take (k + 1)) b = prodS f (a.take k) b ++ rowS f (a.getD k zM) b := by
  rw [take_snoc_m a zM k h]; unfold prodS rowS; simp
theorem rowS_snoc (f : Int) (x : Mo) (b : List Mo) (j : Nat) (h : j < b.length) : rowS f x (b.take (j + 1)) = rowS f x (b.take j) ++ [(mulF f x.1 (b.getD j zM).1, x.2 ++ (b.getD j zM).2)] := by
  rw [take_snoc_m b zM j h]; unfold rowS; simp
theorem collect_one (f : Int) (L s : List Mo) (c : Nat) (u : List Vr) : collect f L (s ++ [(c, u)]) = addM f (collect f L s) c u := by unfold collect; rw [List.foldl_append]; rfl
theorem rowS_len (f : Int) (x : Mo) (b : List Mo) : (rowS f x b).length = b.length := by simp [rowS]
theorem prodS_len (f : Int) (b : List Mo) : ∀ a : List Mo, (prodS f a b).length = a.length * b.length
  | [] => by simp [prodS]
  | x :: r => by
    have ih := prodS_len f b r
    unfold prodS at ih ⊢
    rw [List.flatMap_cons, List.length_append, ih, List.length_map, List.length_cons, Nat.add_mul]; omega
theorem mul_no (f : Int) (va vb : Value) (w : World) (hT : Tab w) (hv : validB f = false) :
    Calls Tryz.prog 15 #[.int .i64 f, va, vb] w fun e w' => e = .returned (.tuple #[.slice none 0 0, .int .i64 1]) ∧ On w w' := by
  have HV : Hid (∀ w, Calls Tryz.prog 16 #[.int .i64 f] w fun e w' => e = .returned (.bool false) ∧ w = w') := fun w => by have h := valid_any f w; rw [hv] at h; exact h
  have H0 := Lib.hid (On.refl hT)
  clear hv hT
  go_enter Tryz.func15, Tryz.ntmps15
  go_wp2_with (go_at_call 16; refine (HV.out _).mono ?_; rintro e w' ⟨rfl, rfl⟩)
  go_ret2
  exact ⟨rfl, H0.out.alloc _⟩
set_option maxRecDepth 100000 in
set_option maxHeartbeats 3000000 in
theorem mul_yes (f : Int) (a b : List Mo) (va vb : Value) (w : World) (hT : Tab w) (hP : Pw w) (hv : validB f = true) (hA : MRd w va a) (hB : MRd w vb b) (ha : a.length ≤ 1000) (hb : b.length ≤ 1000) (hal : ∀ m ∈ a, m.2.length ≤ 100000) (hbl : ∀ m ∈ b, m.2.length ≤ 100000) :
    Calls Tryz.prog 15 #[.int .i64 f, va, vb] w fun e w' => (∃ u, e = .returned (.tuple #[u, .int .i64 0]) ∧ MRd w' u (normS f (prodS f a b))) ∧ On w w' := by
  have hp := (valid_iff f).1 hv
  have HV : Hid (∀ w, Calls Tryz.prog 16 #[.int .i64 f] w fun e w' => e = .returned (.bool true) ∧ w = w') := fun w => by have h := valid_any f w; rw [hv] at h; exact h
  obtain ⟨aa, ca, rfl⟩ := hA.shape
  obtain ⟨ab, cb, rfl⟩ := hB.shape
  have HCA := Lib.hid hA.cells
  have HCB := Lib.hid hB.cells
  have HLA := Lib.hid hA.le
  have HLB := Lib.hid hB.le
  have HP := Lib.hid hP
  have gl : ∀ (s : List Mo), (∀ m ∈ s, m.2.length ≤ 100000) → ∀ k, (s.getD k zM).2.length ≤ 100000 := fun s hs k => by
    rcases Nat.lt_or_ge k s.length with h | h
    · rw [List.getD_eq_getElem?_getD, List.getElem?_eq_getElem h]; exact hs _ (List.getElem_mem _)
    · rw [List.getD_eq_getElem?_getD, List.getElem?_eq_none h]; simp
  have HVA := Lib.hid (gl a hal)
  have HVB := Lib.hid (gl b hbl)
  have HPW : Hid ((collect f [] (prodS f a b)).Pairwise (fun a b => a.2 ≠ b.2)) := (Apt.collect hp (prodS f a b) (L := []) ⟨List.Pairwise.nil, by simp⟩).1
  obtain ⟨n, hn⟩ : ∃ n, a.length = n := ⟨_, rfl⟩
  obtain ⟨p, hpn⟩ : ∃ p, b.length = p := ⟨_, rfl⟩
  have HN := Lib.hid hn
  have HPN := Lib.hid hpn
  rw [hn] at HCA ha ⊢
  rw [hpn] at HCB hb ⊢
  have HCL : Hid (∀ k j, k < n → j ≤ p → (collect f [] (prodS f (a.take k) b ++ rowS f (a.getD k zM) (b.take j))).length ≤ 1000000) := fun k j hk hj => by
    have h1 := collect_len f (prodS f (a.take k) b ++ rowS f (a.getD k zM) (b.take j)) []
    rw [List.length_append, prodS_len, rowS_len, List.length_take, List.length_take, hn, hpn] at h1
    have h2 : (min k n + 1) * p ≤ 1000 * 1000 := Nat.mul_le_mul (by omega) hb
    rw [Nat.add_mul] at h2
    rw [List.length_nil, Nat.zero_add] at h1; omega
  have HCE : Hid ((collect f [] (prodS f a b)).length ≤ 1000000) := by
    have h1 := collect_len f (prodS f a b) []
    rw [prodS_len, hn, hpn] at h1
    have h2 : n * p ≤ 1000 * 1000 := Nat.mul_le_mul ha hb
    unfold Hid; rw [List.length_nil, Nat.zero_add] at h1; omega
  obtain ⟨w1, hw1⟩ : ∃ w1, w1 = w.alloc (.cells #[.int .i64 f] 3) := ⟨_, rfl⟩
  have hO1 : On w w1 := by rw [hw1]; exact (On.refl hT).alloc _
  have hf1 : w1.cell? ⟨w.heap.size, 0, none⟩ = some (.int .i64 f) := by rw [hw1, World.cell?_alloc_new]; rfl
  have hs1 : w.heap.size < w1.heap.size := by rw [hw1]; simp
  have HO1 := Lib.hid hO1
  have HF1 := Lib.hid hf1
  have HS1 := Lib.hid hs1
  have HNC := Lib.hid (newc_any f w1 hO1.tab)
  have HW1 := Lib.hid hw1
  clear hT hP hA hB hal hbl gl hn hpn hw1 hO1 hs1 hv
  go_enter Tryz.func15, Tryz.ntmps15
  go_upto_region 1 with fail
  rw [← HW1.out]
  go_wp2_with (first | (go_at_call 16; refine (HV.out _).mono ?_; rintro e w' ⟨rfl, rfl⟩) | (go_at_call 17; refine HNC.out.mono ?_; rintro e w2 ⟨⟨C, rfl, hCol⟩, hO2⟩; refine Hid.out ?_))
  refine Lib.hid ?_
  obtain ⟨Bc, hBc⟩ : ∃ Bc, Bc = w2.heap.size := ⟨_, rfl⟩
  obtain ⟨w3, hw3⟩ : ∃ w3, w3 = w2.alloc (.cells #[.pointer (some ⟨C, 0, none⟩)] 46) := ⟨_, rfl⟩
  have hO23 : On w2 w3 := by rw [hw3]; exact (On.refl hO2.tab).alloc _
  have hO3 := hO2.trans hO23
  have hc3 : w3.cell? ⟨Bc, 0, none⟩ = some (.pointer (some ⟨C, 0, none⟩)) := by rw [hw3, hBc, World.cell?_alloc_new]; rfl
  have hcol3 := hCol.more hO23 Bc (by omega) (by rw [hw3, hBc]; simp)
  obtain ⟨X, hX⟩ : ∃ X : Nat → Prop, X = fun g => False ∨ g = Bc := ⟨_, rfl⟩
  rw [← hX] at hcol3
  have HXB : Hid (X Bc) := by unfold Hid; rw [hX]; exact .inr rfl
  have HCOL := Lib.hid hcol3
  have HO3 := Lib.hid hO3
  have HC3 := Lib.hid hc3
  have HW3 := Lib.hid hw3
  have HBC := Lib.hid hBc
  clear hCol hO2 hO23 hO3 hc3 hcol3 hX hw3 hBc HNC hf1
  go_upto_region 4 with fail
  rw [← HBC.out, ← HW3.out]
  go_wp2_with fail
  go_loopw [22] (fun vi wr => ∃ k : Nat, k ≤ n ∧ vi = .int .i64 (k : Int) ∧ Hid (Col X w1.heap.size C f wr (collect f [] (prodS f (a.take k) b))) ∧ Hid (On w1 wr) ∧ Hid (wr.cell? ⟨Bc, 0, none⟩ = some (.pointer (some ⟨C, 0, none⟩)))) (fun vi _ => n - (intOf vi).toNat)
  case atStart => exact ⟨0, Nat.zero_le _, rfl, HCOL, HO3, HC3⟩
  case round =>
    rename World => wr
    obtain ⟨k, hk, rfl, HCO, HO, HCB0⟩ := hrel
    by_cases hlt : k < n
    · obtain ⟨g, off, a', c', rfl, c0, c1, c2⟩ := HCA.out k hlt
      have HOW := Lib.hid (HO1.out.trans HO.out)
      have c0' := (HOW.out.cell (p := ⟨g, off + k * 2, none⟩) (cell_size c0)).trans c0
      have c1' := (HOW.out.cell (p := ⟨g, off + k * 2 + 1, none⟩) (cell_size c1)).trans c1
      have hlt' : (k : Int) < (n : Int) := by omega
      have HXV := Lib.hid c2
      have hle := HLA.out k
      have hvl := HVA.out k
      have HPS := Lib.hid (prodS_snoc f a b k (by rw [HN.out]; exact hlt))
      have HCK := Lib.hid (fun j => HCL.out k j hlt)
      have HRS := Lib.hid (fun j h => rowS_snoc f (a.getD k zM) b j h)
      obtain ⟨x, hx⟩ : ∃ x, x = a.getD k zM := ⟨_, rfl⟩
      rw [← hx] at c0' c1' HXV hle hvl HPS HCK HRS
      clear c0 c1 c2 hx
      obtain ⟨xc, xv⟩ := x
      simp only at c0' c1' HXV hle hvl
      obtain ⟨P0, hP0⟩ : ∃ P0, P0 = prodS f (a.take k) b := ⟨_, rfl⟩
      rw [← hP0] at HCO HPS HCK
      clear hP0
      obtain ⟨w4, hw4⟩ : ∃ w4, w4 = wr.alloc (.cells #[.int .u64 ((xc : Nat) : Int), .slice a' xv.length c'] 34) := ⟨_, rfl⟩
      obtain ⟨Bx, hBx⟩ : ∃ Bx, Bx = wr.heap.size := ⟨_, rfl⟩
      have hOr4 : On wr w4 := by rw [hw4]; exact (On.refl HO.out.tab).alloc _
      have hx0 : w4.cell? ⟨Bx, 0, none⟩ = some (.int .u64 ((xc : Nat) : Int)) := by rw [hw4, hBx, World.cell?_alloc_new]; rfl
      have hx1 : w4.cell? ⟨Bx, 1, none⟩ = some (.slice a' xv.length c') := by rw [hw4, hBx, World.cell?_alloc_new]; rfl
      have hcol4 := HCO.out.more hOr4 Bx (by omega) (by rw [hw4, hBx]; simp)
      have hb4 := (hOr4.cell (p := ⟨Bc, 0, none⟩) (cell_size HCB0.out)).trans HCB0.out
      obtain ⟨X2, hX2⟩ : ∃ X2 : Nat → Prop, X2 = fun g => X g ∨ g = Bx := ⟨_, rfl⟩
      rw [← hX2] at hcol4
      have HX2B : Hid (X2 Bc) := by unfold Hid; rw [hX2]; exact .inl HXB.out
      have HX2X : Hid (X2 Bx) := by unfold Hid; rw [hX2]; exact .inr rfl
      have HXX : Hid (∀ g, X g → X2 g) := fun g hg => by rw [hX2]; exact .inl hg
      have HCOL4 : Hid (Col X2 w1.heap.size C f w4 (collect f [] (P0 ++ rowS f (xc, xv) (b.take 0)))) := by
        unfold Hid; rw [List.take_zero]; show Col X2 _ C f w4 (collect f [] (P0 ++ [])); rw [List.append_nil]; exact hcol4
      have HO4 := Lib.hid (HO.out.trans hOr4)
      have HB4 := Lib.hid hb4
      have HX40 := Lib.hid hx0
      have HX41 := Lib.hid hx1
      have HW4 := Lib.hid hw4
      have HBX := Lib.hid hBx
      clear hw4 hBx hOr4 hx0 hx1 hcol4 hb4 hX2 HCO HO HCB0 HOW
      go_upto_region 8 with fail
      rw [← HBX.out, ← HW4.out]
      go_wp2_with fail
      go_loopw [28] (fun vj wq => ∃ j : Nat, j ≤ p ∧ vj = .int .i64 (j : Int) ∧ Hid (Col X2 w1.heap.size C f wq (collect f [] (P0 ++ rowS f (xc, xv) (b.take j)))) ∧ Hid (On w1 wq) ∧ Hid (wq.cell? ⟨Bc, 0, none⟩ = some (.pointer (some ⟨C, 0, none⟩))) ∧ Hid (wq.cell? ⟨Bx, 0, none⟩ = some (.int .u64 ((xc : Nat) : Int))) ∧ Hid (wq.cell? ⟨Bx, 1, none⟩ = some (.slice a' xv.length c'))) (fun vj _ => p - (intOf vj).toNat)
      case atStart => exact ⟨0, Nat.zero_le _, rfl, HCOL4, HO4, HB4, HX40, HX41⟩
      case round =>
        rename World => wq
        obtain ⟨j, hj, rfl, HCO, HO, HCB0, HBX0, HBX1⟩ := hrel
        by_cases hjt : j < p
        · obtain ⟨g2, off2, a2, c2, rfl, d0, d1, d2⟩ := HCB.out j hjt
          have HOW := Lib.hid (HO1.out.trans HO.out)
          have d0' := (HOW.out.cell (p := ⟨g2, off2 + j * 2, none⟩) (cell_size d0)).trans d0
          have d1' := (HOW.out.cell (p := ⟨g2, off2 + j * 2 + 1, none⟩) (cell_size d1)).trans d1
          have hjt' : (j : Int) < (p : Int) := by omega
          have hle2 := HLB.out j
          have hvl2 := HVB.out j
          have hrs := HRS.out j (by rw [HPN.out]; exact hjt)
          have hck := HCK.out j (by omega)
          obtain ⟨y, hy⟩ : ∃ y, y = b.getD j zM := ⟨_, rfl⟩
          rw [← hy] at d0' d1' d2 hle2 hvl2 hrs
          obtain ⟨yc, yv⟩ := y
          simp only at d0' d1' d2 hle2 hvl2 hrs
          have HSN : Hid (collect f [] (P0 ++ rowS f (xc, xv) (b.take (j + 1))) = addM f (collect f [] (P0 ++ rowS f (xc, xv) (b.take j))) (mulF f xc yc) (xv ++ yv)) := by
            unfold Hid; rw [hrs, ← List.append_assoc, collect_one]
          obtain ⟨LL, hLL⟩ : ∃ LL, LL = collect f [] (P0 ++ rowS f (xc, xv) (b.take j)) := ⟨_, rfl⟩
          rw [← hLL] at HCO HSN hck
          obtain ⟨w5, hw5⟩ : ∃ w5, w5 = wq.alloc (.cells #[.int .u64 ((yc : Nat) : Int), .slice a2 yv.length c2] 34) := ⟨_, rfl⟩
          have hO5 : On wq w5 := by rw [hw5]; exact (On.refl HO.out.tab).alloc _
          have hb5 := (hO5.cell (p := ⟨Bc, 0, none⟩) (cell_size HCB0.out)).trans HCB0.out
          have x50 := (hO5.cell (p := ⟨Bx, 0, none⟩) (cell_size HBX0.out)).trans HBX0.out
          have x51 := (hO5.cell (p := ⟨Bx, 1, none⟩) (cell_size HBX1.out)).trans HBX1.out
          have y50 : w5.cell? ⟨wq.heap.size, 0, none⟩ = some (.int .u64 ((yc : Nat) : Int)) := by rw [hw5, World.cell?_alloc_new]; rfl
          have y51 : w5.cell? ⟨wq.heap.size, 1, none⟩ = some (.slice a2 yv.length c2) := by rw [hw5, World.cell?_alloc_new]; rfl
          have hOW5 := HOW.out.trans hO5
          have hf5 : w5.cell? ⟨w.heap.size, 0, none⟩ = some (.int .i64 f) := ((HO.out.trans hO5).cell (p := ⟨w.heap.size, 0, none⟩) HS1.out).trans HF1.out
          have HMU := Lib.hid (mul1_any (W0 := w1) X2 C Bc w.heap.size f LL xc yc xv yv a' a2 c' c2 w5 (HO.out.trans hO5) (HP.out.on hOW5) (HCO.out.on hO5) (HXV.out.on hOW5) (d2.on hOW5) (by omega) hck hle hle2 hb5 hf5)
          have HKB : Hid (∀ w' : World, (∀ g, X2 g → w'.heap[g]? = w5.heap[g]?) → w'.cell? ⟨Bc, 0, none⟩ = some (.pointer (some ⟨C, 0, none⟩)) ∧ w'.cell? ⟨Bx, 0, none⟩ = some (.int .u64 ((xc : Nat) : Int)) ∧ w'.cell? ⟨Bx, 1, none⟩ = some (.slice a' xv.length c')) := fun w' h =>
            ⟨(World.cell?_of_block (a := ⟨Bc, 0, none⟩) (h Bc HX2B.out)).trans hb5, (World.cell?_of_block (a := ⟨Bx, 0, none⟩) (h Bx HX2X.out)).trans x50, (World.cell?_of_block (a := ⟨Bx, 1, none⟩) (h Bx HX2X.out)).trans x51⟩
          have HW5 := Lib.hid hw5
          clear d0 d1 d2 hrs hck hy hLL hw5 hO5 hb5 hOW5 hf5 HCO HO HCB0 HBX0 HBX1 HOW
          go_upto_region 11 with fail
          rw [← HW5.out]
          go_wp2_with (go_at_call 39; refine HMU.out.mono ?_; rintro e w6 ⟨rfl, h1, h2, h3⟩)
          go_roundw
          case rel =>
            obtain ⟨k1, k2, k3⟩ := HKB.out _ h3
            exact ⟨j + 1, by omega, by simp, Lib.hid (by rw [HSN.out]; exact h1), Lib.hid h2, Lib.hid k1, Lib.hid k2, Lib.hid k3⟩
          case measure => simp [intOf]; omega
        · obtain rfl : j = p := by omega
          have HCO2 : Hid (Col X w1.heap.size C f wq (collect f [] (prodS f (a.take (k + 1)) b))) := by
            have h := HCO.out
            rw [← HPN.out, List.take_length, ← HPS.out] at h
            exact h.less HXX.out
          clear HCO
          go_wp2
          go_roundw
          case rel => exact ⟨k + 1, by omega, by simp, HCO2, HO, HCB0⟩
          case measure => simp [intOf]; omega
    · obtain rfl : k = n := by omega
      have hE : collect f [] (prodS f (a.take k) b) = collect f [] (prodS f a b) := by rw [← HN.out, List.take_length]
      rw [hE] at HCO
      have HNO := Lib.hid (normal_any (W0 := w1) X C f _ wr HO.out HCO.out HCE.out HPW.out)
      have hcb := HCB0.out
      clear hE HCO HPW
      go_wp2_with (go_at_call 19; refine HNO.out.mono ?_; rintro e w6 ⟨⟨u, rfl, hM⟩, hO6⟩)
      go_ret2
      exact ⟨⟨_, rfl, hM⟩, HO1.out.trans hO6⟩
end Go.Proofs.YtnmdfldgpbfbbaaGreatDoor
