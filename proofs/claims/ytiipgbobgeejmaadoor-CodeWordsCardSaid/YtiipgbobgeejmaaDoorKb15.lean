/- Package code: lists that grow side by side. -/
import Derived.Test.YtiipgbobgeejmaaDoorKb09
import Derived.Test.YtiipgbobgeejmaaDoorKb14
import Derived.Test.YtiipgbobgeejmaaDoorKb05
import Derived.Test.YtiipgbobgeejmaaDoorKb13
import Derived.Test.YtiipgbobgeejmaaDoorKb12
/- Package code: lists that grow side by side. -/
namespace Go.Proofs.YtiipgbobgeejmaaDoor
open Go.RowKit
set_option linter.unusedVariables false

/-- The first n known places among the first k. -/
def firstN (kn : Nat → Bool) (n k : Nat) : List Nat := ((List.range k).filter kn).take n
theorem firstN_zero (kn : Nat → Bool) (n : Nat) : firstN kn n 0 = [] := by simp [firstN]
theorem firstN_yes {kn : Nat → Bool} {n k : Nat} (h : kn k = true) (hl : (firstN kn n k).length < n) : firstN kn n (k + 1) = firstN kn n k ++ [k] := by
  unfold firstN at *
  rw [List.range_succ, List.filter_append, List.filter_cons_of_pos h, List.filter_nil]
  rw [List.length_take] at hl
  rw [List.take_append, List.take_of_length_le (by omega), List.take_of_length_le (by simp; omega)]
theorem firstN_no {kn : Nat → Bool} {n k : Nat} (h : kn k = false ∨ n ≤ (firstN kn n k).length) : firstN kn n (k + 1) = firstN kn n k := by
  unfold firstN at *
  rw [List.range_succ, List.filter_append]
  rcases h with h | h
  · rw [List.filter_cons_of_neg (by rw [h]; exact Bool.false_ne_true), List.filter_nil, List.append_nil]
  · rw [List.length_take] at h
    rw [List.take_append, show n - ((List.range k).filter kn).length = 0 by omega, List.take_zero, List.append_nil]
theorem firstN_len (kn : Nat → Bool) (n k : Nat) : (firstN kn n k).length ≤ n := by unfold firstN; rw [List.length_take]; omega
theorem firstN_le (kn : Nat → Bool) (n k : Nat) : (firstN kn n k).length ≤ k := by
  unfold firstN; rw [List.length_take]
  have := List.length_filter_le kn (List.range k)
  rw [List.length_range] at this
  omega
/-- A list of Bools in memory. -/
def ReadsK (w : World) (v : Value) (kn : Nat → Bool) (m : Nat) : Prop := ∃ a cap, v = .slice a m cap ∧ ∀ j, j < m → ∃ b o, a = some ⟨b, o, none⟩ ∧ w.cell? ⟨b, o + j, none⟩ = some (.bool (kn j))
theorem ReadsK.on {w w' : World} {v : Value} {kn : Nat → Bool} {m : Nat} (h : ReadsK w v kn m) (k : On w w') : ReadsK w' v kn m := by
  obtain ⟨a, cap, h1, h2⟩ := h
  refine ⟨a, cap, h1, fun j hj => ?_⟩
  obtain ⟨b, o, h3, h4⟩ := h2 j hj
  exact ⟨b, o, h3, by rw [k.cell (p := ⟨b, o + j, none⟩) (cell_size h4)]; exact h4⟩
theorem heap_cell (w : World) (x : Nat) (t : TypeId) : (w.alloc (.cells #[.int .u64 (x : Int)] t)).cell? ⟨w.heap.size, 0, none⟩ = some (.int .u64 (x : Int)) := World.cell?_alloc_at _ _ _ _ rfl
theorem heap_cell' (w : World) (x : Nat) (t : TypeId) (C : Nat) (hC : C = w.heap.size) : (w.alloc (.cells #[.int .u64 (x : Int)] t)).cell? ⟨C, 0, none⟩ = some (.int .u64 (x : Int)) := hC ▸ heap_cell w x t
theorem cell_alloc {w : World} {p : Addr} {v : Value} {o : Obj} (h : w.cell? p = some v) : (w.alloc o).cell? p = some v := by
  rw [World.cell?_alloc_old _ _ _ (Nat.ne_of_lt (cell_size h))]; exact h
/-- Two lists that grow side by side, in memory from B on. -/
def Two (B : Nat) (W w : World) (vx vy : Value) (X Y : List Nat) : Prop := On W w ∧ W.heap.size ≤ B ∧ B ≤ w.heap.size ∧ Ow B w vx X ∧ Ow B w vy Y ∧ Apart vx vy
theorem Two.start {W : World} (h : Tab W) : Two W.heap.size W W (.slice none 0 0) (.slice none 0 0) [] [] :=
  ⟨On.refl h, Nat.le_refl _, Nat.le_refl _, Ow.nil _ _, Ow.nil _ _, fun g h => by simp [Value.ownBlock] at h⟩
theorem Two.drew {B : Nat} {W w : World} {vx vy : Value} {X Y : List Nat} (h : Two B W w vx vy X Y) : Two B W w.drew vx vy X Y := ⟨h.1.drew, h.2⟩
theorem Two.alloc {B : Nat} {W w : World} {vx vy : Value} {X Y : List Nat} (h : Two B W w vx vy X Y) (o : Obj) : Two B W (w.alloc o) vx vy X Y :=
  ⟨h.1.alloc o, h.2.1, by have := h.2.2.1; simp; omega, h.2.2.2.1.alloc' o, h.2.2.2.2.1.alloc' o, h.2.2.2.2.2⟩
theorem Two.eq {B : Nat} {W w : World} {vx vy : Value} {X Y X' Y' : List Nat} (h : Two B W w vx vy X Y) (e : X' = X) (e2 : Y' = Y) : Two B W w vx vy X' Y' := by subst e e2; exact h
theorem Two.lt {B : Nat} {W w : World} {vx vy : Value} {X Y : List Nat} (h : Two B W w vx vy X Y) : (∀ g, vx.ownBlock = some g → g < w.heap.size) ∧ ∀ g, vy.ownBlock = some g → g < w.heap.size :=
  ⟨fun g e => (World.ownsRow.lt h.2.2.2.1 g e).2, fun g e => (World.ownsRow.lt h.2.2.2.2.1 g e).2⟩
theorem Two.far {B : Nat} {W w : World} {vx vy : Value} {X Y : List Nat} (h : Two B W w vx vy X Y) {D : Nat} (hD : w.heap.size ≤ D) : vx.ownBlock ≠ some D := fun e => by have := h.lt.1 _ e; omega
theorem Two.appX {B : Nat} {W w : World} {vx vy : Value} {X Y : List Nat} (h : Two B W w vx vy X Y) (x C : Nat) (hx : w.cell? ⟨C, 0, none⟩ = some (.int .u64 (x : Int))) {q : Nat} (hq : X.length = q) (hl : q ≤ 1000) :
    ∃ a c w', (∀ ty, (Builtin.append_ #[25, 25] ty #[vx, .slice (some ⟨C, 0, none⟩) 1 1]).run Tryd.prog w = .ok (.slice a (q + 1) c) w') ∧ Two B W w' (.slice a (q + 1) c) vy (X ++ [x]) Y ∧
      ∀ D z, D < w.heap.size → vx.ownBlock ≠ some D → w.cell? ⟨D, 0, none⟩ = some z → w'.cell? ⟨D, 0, none⟩ = some z := by
  obtain ⟨h1, h2, h3, h4, h5, h6⟩ := h
  obtain ⟨v', w', a1, a2, a3, a4⟩ := append_cell B x X vx w C hx h4 h3 (by omega)
  obtain ⟨a, c, rfl⟩ := a2.shape
  have e : (X ++ [x]).length = q + 1 := by simp [hq]
  rw [e] at a1 a2 a4
  have hs := a3.size
  exact ⟨a, c, w', a1, ⟨h1.grown h2 h4 a3, h2, by omega, a2, h5.kept' a3 h6.symm, (h6.symm.grown h5 a4).symm⟩, fun D z hD hne hc => by rw [World.cell?_of_block (a := ⟨D, 0, none⟩) (a3.block D hD (fun e => hne e.symm))]; exact hc⟩
theorem Two.appY {B : Nat} {W w : World} {vx vy : Value} {X Y : List Nat} (h : Two B W w vx vy X Y) (y C : Nat) (hy : w.cell? ⟨C, 0, none⟩ = some (.int .u64 (y : Int))) {q : Nat} (hq : Y.length = q) (hl : q ≤ 1000) :
    ∃ a c w', (∀ ty, (Builtin.append_ #[25, 25] ty #[vy, .slice (some ⟨C, 0, none⟩) 1 1]).run Tryd.prog w = .ok (.slice a (q + 1) c) w') ∧ Two B W w' vx (.slice a (q + 1) c) X (Y ++ [y]) := by
  obtain ⟨h1, h2, h3, h4, h5, h6⟩ := h
  obtain ⟨v', w', a1, a2, a3, a4⟩ := append_cell B y Y vy w C hy h5 h3 (by omega)
  obtain ⟨a, c, rfl⟩ := a2.shape
  have e : (Y ++ [y]).length = q + 1 := by simp [hq]
  rw [e] at a1 a2 a4
  have hs := a3.size
  exact ⟨a, c, w', a1, h1.grown h2 h5 a3, h2, by omega, h4.kept' a3 h6, a2, h6.grown h4 a4⟩

end Go.Proofs.YtiipgbobgeejmaaDoor

/- Package code: firstKnown: what the call returns. -/
namespace Go.Proofs.YtiipgbobgeejmaaDoor
open Go.RowKit
set_option linter.unusedVariables false

set_option maxRecDepth 100000 in
set_option maxHeartbeats 4000000 in
theorem firstKnown_any (f : Int) (K s n : Nat) (v : List Nat) (kn : Nat → Bool) (va vk : Value) (w : World) (hT : Tab w) (hv : validD f K s = true) (hl : v.length = 2 ^ K) (hz : 2 ^ K ≤ 512) (hn : n ≤ 1024) (hR : Reads w va v) (hK : ReadsK w vk kn (2 ^ K)) :
    Calls Tryd.prog 14 #[.agg #[.int .i64 f, .int .i64 (K : Int), .int .u64 (s : Int)], va, vk, .int .i64 (n : Int)] w fun e w' => ∃ q a c b d, e = .returned (.tuple #[.slice a q c, .slice b q d]) ∧ q = (firstN kn n (2 ^ K)).length ∧
      Reads w' (.slice a q c) ((firstN kn n (2 ^ K)).map (ptF f K s)) ∧ Reads w' (.slice b q d) ((firstN kn n (2 ^ K)).map fun i => v.getD i 0) ∧ On w w' := by
  obtain ⟨aV, cV, rfl⟩ := hR.shape
  obtain ⟨aK, cK, rfl, hkc⟩ := hK
  obtain ⟨hvf, hkg, hk2, hs0, hsp, hsn, hsb⟩ := validD_nat hv
  have hg18 := grF_le f
  have hple := pOf_le f
  have hO0 : On w (w.alloc (.cells #[.int .i64 f, .int .i64 (K : Int), .int .u64 (s : Int)] 24)) := (On.refl hT).alloc _
  have hS0 := dom_new w (.int .i64 f) (.int .i64 (K : Int)) (.int .u64 (s : Int)) 24
  obtain ⟨u, hu⟩ : ∃ u, u = w.alloc (.cells #[.int .i64 f, .int .i64 (K : Int), .int .u64 (s : Int)] 24) := ⟨_, rfl⟩
  rw [← hu] at hO0 hS0
  have HU := Lib.hid hu
  have HO0 := Lib.hid hO0; have HS0 := Lib.hid hS0
  have HT := Lib.hid hO0.tab
  have HR := Lib.hid (hR.on hO0)
  have HKC : Hid (ReadsK u (.slice aK (2 ^ K) cK) kn (2 ^ K)) := (show ReadsK w (.slice aK (2 ^ K) cK) kn (2 ^ K) from ⟨aK, cK, rfl, hkc⟩).on hO0
  have HPS := Lib.hid (fun w' (hT : Tab w') => points_dom f (K : Int) s w' hT (by omega) (by omega))
  rw [sizeD_nat hv, ptsD_nat hv] at HPS
  have HPB := Lib.hid (fun i => ptF_le f K s i)
  have HPG := Lib.hid (fun i (h : i < 2 ^ K) => ptL_getD f K s i h)
  have HPLN := Lib.hid (ptL_len f K s)
  have HVB := Lib.hid hR.1
  obtain ⟨z, hze⟩ : ∃ z, z = 2 ^ K := ⟨_, rfl⟩
  rw [← hze] at hl hz HKC HPS HPG HPLN ⊢
  have HL := Lib.hid hl
  clear hO0 hS0 hu hR hkc hT hv hsb hsn hs0 hk2 hkg hze
  rw [hl]
  clear hl
  go_enter Tryd.func14, Tryd.ntmps14
  go_wp2_with fail
  rw [← HU.out]
  obtain ⟨b1, b2, b3⟩ := HS0.out
  go_wp2_with (go_at_call 38; with_reducible refine (HPS.out u HT.out).mono ?_; rintro e w1 ⟨g, rfl, hg1, hB1, hW1⟩; have HB1 := Lib.hid hB1; have HW1 := Lib.hid hW1; clear hB1 hW1 hg1)
  clear b1 b2 b3
  have HT1 := Lib.hid HW1.out.tab
  have HK1 := Lib.hid (HKC.out.on HW1.out)
  have HR1 := Lib.hid (HR.out.on HW1.out)
  go_loopw [8, 9, 15] (fun vx vy vi wr => ∃ (i q : Nat) (ax ay : Option Addr) (cx cy : Nat), i ≤ z ∧ vi = .int .i64 (i : Int) ∧ vx = .slice ax q cx ∧ vy = .slice ay q cy ∧ Hid ((firstN kn n i).length = q) ∧ Hid (Two w1.heap.size w1 wr (.slice ax q cx) (.slice ay q cy) ((firstN kn n i).map (ptF f K s)) ((firstN kn n i).map fun i => v.getD i 0))) (fun _ _ vi _ => z - (intOf vi).toNat)
  case atStart => exact ⟨0, 0, none, none, 0, 0, Nat.zero_le _, rfl, rfl, rfl, by unfold Hid; simp [firstN], by unfold Hid; rw [firstN_zero]; exact Two.start HT1.out⟩
  case round =>
    obtain ⟨i, q, ax, ay, cx, cy, hi, rfl, rfl, rfl, HQ, HTW⟩ := hrel
    have hqn : q ≤ n := by rw [← HQ.out]; exact firstN_len _ _ _
    have hqi : q ≤ i := by rw [← HQ.out]; exact firstN_le _ _ _
    by_cases hlt : i < z
    · have hpc := (HB1.out.on HTW.out.1).cell i (by rw [HPLN.out]; exact hlt)
      rw [HPG.out i hlt] at hpc
      obtain ⟨aK', cK', hke, hkc⟩ := HK1.out
      simp only [Value.slice.injEq, true_and] at hke
      obtain ⟨rfl, rfl⟩ := hke
      obtain ⟨bK, oK, rfl, hkcell⟩ := hkc i hlt
      have hkc2 : wr.cell? ⟨bK, oK + i, none⟩ = some (.bool (kn i)) := by rw [HTW.out.1.cell (p := ⟨bK, oK + i, none⟩) (cell_size hkcell)]; exact hkcell
      clear hkc hkcell
      obtain ⟨-, hcA⟩ := reads_opt (HR1.out)
      have hxb := HPB.out i
      have hyb := HVB.out _ (getD_mem v i (by rw [HL.out]; exact hlt))
      obtain ⟨bA, oA, rfl, hcellA⟩ := hcA i (by rw [HL.out]; exact hlt)
      have HVC : Hid (∀ w', On w1 w' → w'.cell? ⟨bA, oA + i, none⟩ = some (.int .u64 ((v.getD i 0 : Nat) : Int))) := fun w' h => by rw [h.cell (p := ⟨bA, oA + i, none⟩) (cell_size hcellA)]; exact hcellA
      clear hcA hcellA
      by_cases hgo : kn i = true ∧ q < n
      · obtain ⟨hki, hqlt⟩ := hgo
        have hst := firstN_yes hki (by rw [HQ.out]; exact hqlt)
        have HL2 : Hid ((firstN kn n (i + 1)).length = q + 1) := by unfold Hid; rw [hst, List.length_append, HQ.out]; rfl
        have HX2 : (firstN kn n (i + 1)).map (ptF f K s) = (firstN kn n i).map (ptF f K s) ++ [ptF f K s i] := by rw [hst, List.map_append]; rfl
        have HY2 : ((firstN kn n (i + 1)).map fun i => v.getD i 0) = ((firstN kn n i).map fun i => v.getD i 0) ++ [v.getD i 0] := by rw [hst, List.map_append]; rfl
        have HXL : Hid (((firstN kn n i).map (ptF f K s)).length = q) := by unfold Hid; rw [List.length_map]; exact HQ.out
        have HYL : Hid (((firstN kn n i).map fun i => v.getD i 0).length = q) := by unfold Hid; rw [List.length_map]; exact HQ.out
        have HX2 := Lib.hid HX2; have HY2 := Lib.hid HY2
        rw [hki] at hkc2
        clear hst hki
        generalize (firstN kn n i).map (ptF f K s) = X at *
        generalize ((firstN kn n i).map fun i => v.getD i 0) = Y at *
        generalize ptF f K s i = x at *
        generalize v.getD i 0 = y at *
        go_wp2
        refine region_head_tail (S := fun wq => On w1 wq) 12 (by kernel_rfl) (by kernel_rfl) ?_
        have hSd : On w1 wr.drew := HTW.out.1.drew
        refine HeadG.take (i := 0) (v := ?hdv1x0) rfl (by kernel_rfl) (by kernel_rfl) (by kernel_rfl) (by kernel_rfl) (by kernel_rfl) (by kernel_rfl) (by kernel_rfl) (fun _ _ _ h => h) (Or.inl ⟨by rfl, ?hdy1x0⟩) hSd ?hdr1x0
        case hdy1x0 => (intro w' hSw; have hcv := HVC.out w' hSw; go_simp; try with_reducible rfl)
        try simp only [Act.put, List.setIfInBounds_toArray, List.set_cons_zero, List.set_cons_succ]
        refine HeadG.take (i := 1) (v := ?hdv2x1) rfl (by kernel_rfl) (by kernel_rfl) (by kernel_rfl) (by kernel_rfl) (by kernel_rfl) (by kernel_rfl) (by kernel_rfl) (fun _ _ _ h => h) (Or.inl ⟨by rfl, ?hdy2x1⟩) hSd ?hdr2x1
        case hdy2x1 => (intro w' hSw; have hcv := HVC.out w' hSw; go_simp; try with_reducible rfl)
        try simp only [Act.put, List.setIfInBounds_toArray, List.set_cons_zero, List.set_cons_succ]
        refine HeadG.take (i := 4) (v := ?hdv3x4) rfl (by kernel_rfl) (by kernel_rfl) (by kernel_rfl) (by kernel_rfl) (by kernel_rfl) (by kernel_rfl) (by kernel_rfl) (fun _ _ _ h => h) (Or.inl ⟨by rfl, ?hdy3x4⟩) hSd ?hdr3x4
        case hdy3x4 => (intro w' hSw; have hcv := HVC.out w' hSw; go_simp; try with_reducible rfl)
        try simp only [Act.put, List.setIfInBounds_toArray, List.set_cons_zero, List.set_cons_succ]
        refine HeadG.take (i := 5) (v := ?hdv4x5) rfl (by kernel_rfl) (by kernel_rfl) (by kernel_rfl) (by kernel_rfl) (by kernel_rfl) (by kernel_rfl) (by kernel_rfl) (fun _ _ _ h => h) (Or.inl ⟨by rfl, ?hdy4x5⟩) hSd ?hdr4x5
        case hdy4x5 => (intro w' hSw; have hcv := HVC.out w' hSw; go_simp; try with_reducible rfl)
        try simp only [Act.put, List.setIfInBounds_toArray, List.set_cons_zero, List.set_cons_succ]
        refine HeadG.take (i := 6) (v := ?hdv5x6) rfl (by kernel_rfl) (by kernel_rfl) (by kernel_rfl) (by kernel_rfl) (by kernel_rfl) (by kernel_rfl) (by kernel_rfl) (fun _ _ _ h => h) (Or.inl ⟨by rfl, ?hdy5x6⟩) hSd ?hdr5x6
        case hdy5x6 => (intro w' hSw; have hcv := HVC.out w' hSw; go_simp; try with_reducible rfl)
        try simp only [Act.put, List.setIfInBounds_toArray, List.set_cons_zero, List.set_cons_succ]
        refine HeadG.take (i := 7) (v := ?hdv6x7) rfl (by kernel_rfl) (by kernel_rfl) (by kernel_rfl) (by kernel_rfl) (by kernel_rfl) (by kernel_rfl) (by kernel_rfl) (fun _ _ _ h => h) (Or.inl ⟨by rfl, ?hdy6x7⟩) hSd ?hdr6x7
        case hdy6x7 => (intro w' hSw; have hcv := HVC.out w' hSw; go_simp; try with_reducible rfl)
        try simp only [Act.put, List.setIfInBounds_toArray, List.set_cons_zero, List.set_cons_succ]
        refine HeadG.take (i := 8) (v := ?hdv7x8) rfl (by kernel_rfl) (by kernel_rfl) (by kernel_rfl) (by kernel_rfl) (by kernel_rfl) (by kernel_rfl) (by kernel_rfl) (fun _ _ _ h => h) (Or.inl ⟨by rfl, ?hdy7x8⟩) hSd ?hdr7x8
        case hdy7x8 => (intro w' hSw; have hcv := HVC.out w' hSw; go_simp; try with_reducible rfl)
        try simp only [Act.put, List.setIfInBounds_toArray, List.set_cons_zero, List.set_cons_succ]
        have HT0 := Lib.hid HTW.out.drew
        refine HeadG.fork (i := 2) (j := 9) rfl rfl (by kernel_rfl) (by kernel_rfl) (by kernel_rfl) (fun K9 hK9 => ?_) (fun K9 hK9 => ?_)
        · go_simp
          have HTa := Lib.hid (HT0.out.alloc (.cells #[.int .u64 (x : Int)] 22))
          refine hK9.out _ _ HTa.out.1 ?_
          clear hK9 K9
          try simp only [Act.put, List.setIfInBounds_toArray, List.set_cons_zero, List.set_cons_succ]
          refine HeadG.fork (i := 3) (j := 9) rfl rfl (by kernel_rfl) (by kernel_rfl) (by kernel_rfl) (fun K9 hK9 => ?_) (fun K9 hK9 => ?_)
          · obtain ⟨ax1, cx1, wx1, hrx1, htx1, hpx1⟩ := HTa.out.appX x _ (heap_cell' _ _ _ wr.heap.size (by simp)) HXL.out (by omega)
            have HRX1 := Lib.hid hrx1; have HTX1 := Lib.hid htx1; clear hrx1 htx1
            refine step_append2 rfl (.tmp 30) (.tmp 32) _ _ rfl _ _ _ rfl rfl HRX1.out ?_
            refine hK9.out _ _ HTX1.out.1 ?_
            clear hK9 K9
            try simp only [Act.put, List.setIfInBounds_toArray, List.set_cons_zero, List.set_cons_succ]
            refine HeadG.one (i := 9) rfl (by kernel_rfl) (by kernel_rfl) (fun K9 hK9 => ?_)
            go_simp
            have HTb := Lib.hid (HTX1.out.alloc (.cells #[.int .u64 (y : Int)] 22))
            refine hK9.out _ _ HTb.out.1 ?_
            clear hK9 K9
            try simp only [Act.put, List.setIfInBounds_toArray, List.set_cons_zero, List.set_cons_succ]
            obtain ⟨ay1, cy1, wy1, hry1, hty1⟩ := HTb.out.appY y _ (heap_cell' _ _ _ wx1.heap.size rfl) HYL.out (by omega)
            have HRY1 := Lib.hid hry1; have HTY1 := Lib.hid hty1; clear hry1 hty1
            refine HeadG.one (i := 10) rfl (by kernel_rfl) (by kernel_rfl) (fun K9 hK9 => ?_)
            refine step_append2 rfl (.tmp 34) (.tmp 39) _ _ rfl _ _ _ rfl rfl HRY1.out ?_
            refine hK9.out _ _ HTY1.out.1 ?_
            clear hK9 K9
            try simp only [Act.put, List.setIfInBounds_toArray, List.set_cons_zero, List.set_cons_succ]
            refine HeadG.one (i := 11) rfl (by kernel_rfl) (by kernel_rfl) (fun K9 hK9 => ?_)
            go_simp
            refine hK9.out _ _ HTY1.out.1 ?_
            clear hK9 K9
            try simp only [Act.put, List.setIfInBounds_toArray, List.set_cons_zero, List.set_cons_succ]
            refine HeadG.last (i := 12) rfl (by kernel_rfl) (by kernel_rfl) (by kernel_rfl) (fun K9 hK9 => ?_)
            go_simp
            refine hK9.out _ _ ?_
            clear hK9 K9
            try simp only [Act.put, List.setIfInBounds_toArray, List.set_cons_zero, List.set_cons_succ]
            go_wp2
            go_roundw
            case rel => exact ⟨i + 1, q + 1, _, _, _, _, by omega, by go_num, rfl, rfl, HL2, HTY1.out.eq HX2.out HY2.out⟩
            case measure => simp [intOf]; omega
          · go_simp
            have HTb := Lib.hid (HTa.out.alloc (.cells #[.int .u64 (y : Int)] 22))
            refine hK9.out _ _ HTb.out.1 ?_
            clear hK9 K9
            try simp only [Act.put, List.setIfInBounds_toArray, List.set_cons_zero, List.set_cons_succ]
            obtain ⟨ax2, cx2, wx2, hrx2, htx2, hpx2⟩ := HTb.out.appX x _ (cell_alloc (heap_cell' _ _ _ wr.heap.size (by simp))) HXL.out (by omega)
            have HRX2 := Lib.hid hrx2; have HTX2 := Lib.hid htx2; clear hrx2 htx2
            refine HeadG.one (i := 3) rfl (by kernel_rfl) (by kernel_rfl) (fun K9 hK9 => ?_)
            refine step_append2 rfl (.tmp 30) (.tmp 32) _ _ rfl _ _ _ rfl rfl HRX2.out ?_
            refine hK9.out _ _ HTX2.out.1 ?_
            clear hK9 K9
            try simp only [Act.put, List.setIfInBounds_toArray, List.set_cons_zero, List.set_cons_succ]
            obtain ⟨ay2, cy2, wy2, hry2, hty2⟩ := HTX2.out.appY y _ (hpx2 (wr.heap.size + 1) _ (by simp) (HTW.out.far (by omega)) (heap_cell' _ _ _ (wr.heap.size + 1) (by simp))) HYL.out (by omega)
            have HRY2 := Lib.hid hry2; have HTY2 := Lib.hid hty2; clear hry2 hty2
            refine HeadG.one (i := 10) rfl (by kernel_rfl) (by kernel_rfl) (fun K9 hK9 => ?_)
            refine step_append2 rfl (.tmp 34) (.tmp 39) _ _ rfl _ _ _ rfl rfl HRY2.out ?_
            refine hK9.out _ _ HTY2.out.1 ?_
            clear hK9 K9
            try simp only [Act.put, List.setIfInBounds_toArray, List.set_cons_zero, List.set_cons_succ]
            refine HeadG.one (i := 11) rfl (by kernel_rfl) (by kernel_rfl) (fun K9 hK9 => ?_)
            go_simp
            refine hK9.out _ _ HTY2.out.1 ?_
            clear hK9 K9
            try simp only [Act.put, List.setIfInBounds_toArray, List.set_cons_zero, List.set_cons_succ]
            refine HeadG.last (i := 12) rfl (by kernel_rfl) (by kernel_rfl) (by kernel_rfl) (fun K9 hK9 => ?_)
            go_simp
            refine hK9.out _ _ ?_
            clear hK9 K9
            try simp only [Act.put, List.setIfInBounds_toArray, List.set_cons_zero, List.set_cons_succ]
            go_wp2
            go_roundw
            case rel => exact ⟨i + 1, q + 1, _, _, _, _, by omega, by go_num, rfl, rfl, HL2, HTY2.out.eq HX2.out HY2.out⟩
            case measure => simp [intOf]; omega
        · go_simp
          have HTa := Lib.hid (HT0.out.alloc (.cells #[.int .u64 (y : Int)] 22))
          refine hK9.out _ _ HTa.out.1 ?_
          clear hK9 K9
          try simp only [Act.put, List.setIfInBounds_toArray, List.set_cons_zero, List.set_cons_succ]
          refine HeadG.one (i := 2) rfl (by kernel_rfl) (by kernel_rfl) (fun K9 hK9 => ?_)
          go_simp
          have HTb := Lib.hid (HTa.out.alloc (.cells #[.int .u64 (x : Int)] 22))
          refine hK9.out _ _ HTb.out.1 ?_
          clear hK9 K9
          try simp only [Act.put, List.setIfInBounds_toArray, List.set_cons_zero, List.set_cons_succ]
          obtain ⟨ax3, cx3, wx3, hrx3, htx3, hpx3⟩ := HTb.out.appX x _ (heap_cell' _ _ _ (wr.heap.size + 1) (by simp)) HXL.out (by omega)
          have HRX3 := Lib.hid hrx3; have HTX3 := Lib.hid htx3; clear hrx3 htx3
          refine HeadG.one (i := 3) rfl (by kernel_rfl) (by kernel_rfl) (fun K9 hK9 => ?_)
          refine step_append2 rfl (.tmp 30) (.tmp 32) _ _ rfl _ _ _ rfl rfl HRX3.out ?_
          refine hK9.out _ _ HTX3.out.1 ?_
          clear hK9 K9
          try simp only [Act.put, List.setIfInBounds_toArray, List.set_cons_zero, List.set_cons_succ]
          obtain ⟨ay3, cy3, wy3, hry3, hty3⟩ := HTX3.out.appY y _ (hpx3 wr.heap.size _ (by simp; omega) (HTW.out.far (by omega)) (cell_alloc (heap_cell' _ _ _ wr.heap.size (by simp)))) HYL.out (by omega)
          have HRY3 := Lib.hid hry3; have HTY3 := Lib.hid hty3; clear hry3 hty3
          refine HeadG.one (i := 10) rfl (by kernel_rfl) (by kernel_rfl) (fun K9 hK9 => ?_)
          refine step_append2 rfl (.tmp 34) (.tmp 39) _ _ rfl _ _ _ rfl rfl HRY3.out ?_
          refine hK9.out _ _ HTY3.out.1 ?_
          clear hK9 K9
          try simp only [Act.put, List.setIfInBounds_toArray, List.set_cons_zero, List.set_cons_succ]
          refine HeadG.one (i := 11) rfl (by kernel_rfl) (by kernel_rfl) (fun K9 hK9 => ?_)
          go_simp
          refine hK9.out _ _ HTY3.out.1 ?_
          clear hK9 K9
          try simp only [Act.put, List.setIfInBounds_toArray, List.set_cons_zero, List.set_cons_succ]
          refine HeadG.last (i := 12) rfl (by kernel_rfl) (by kernel_rfl) (by kernel_rfl) (fun K9 hK9 => ?_)
          go_simp
          refine hK9.out _ _ ?_
          clear hK9 K9
          try simp only [Act.put, List.setIfInBounds_toArray, List.set_cons_zero, List.set_cons_succ]
          go_wp2
          go_roundw
          case rel => exact ⟨i + 1, q + 1, _, _, _, _, by omega, by go_num, rfl, rfl, HL2, HTY3.out.eq HX2.out HY2.out⟩
          case measure => simp [intOf]; omega
      · have hst := firstN_no (kn := kn) (n := n) (k := i) (by rw [HQ.out]; rcases Bool.eq_false_or_eq_true (kn i) with h | h; right; have : ¬ q < n := fun h2 => hgo ⟨h, h2⟩; omega; left; exact h)
        have HL2 : Hid ((firstN kn n (i + 1)).length = q) := by unfold Hid; rw [hst]; exact HQ.out
        have HTW2 : Hid (Two w1.heap.size w1 wr (.slice ax q cx) (.slice ay q cy) ((firstN kn n (i + 1)).map (ptF f K s)) ((firstN kn n (i + 1)).map fun i => v.getD i 0)) := by unfold Hid; rw [hst]; exact HTW.out
        have hcs : kn i = false ∨ (kn i = true ∧ ¬ q < n) := by
          rcases Bool.eq_false_or_eq_true (kn i) with h | h
          · exact .inr ⟨h, fun h2 => hgo ⟨h, h2⟩⟩
          · exact .inl h
        clear hst hgo
        generalize ptF f K s i = x at *
        rcases hcs with hki | ⟨hki, hqlt⟩
        · rw [hki] at hkc2
          clear hki
          go_wp2
          go_roundw
          case rel => exact ⟨i + 1, q, _, _, _, _, by omega, by go_num, rfl, rfl, HL2, HTW2⟩
          case measure => simp [intOf]; omega
        · rw [hki] at hkc2
          clear hki
          go_wp2
          go_roundw
          case rel => exact ⟨i + 1, q, _, _, _, _, by omega, by go_num, rfl, rfl, HL2, HTW2⟩
          case measure => simp [intOf]; omega
    · obtain rfl : i = z := by omega
      have hxr := HTW.out.2.2.2.1.reads (fun y hy => by obtain ⟨j, _, rfl⟩ := List.mem_map.1 hy; have := HPB.out j; omega)
      have hyr := HTW.out.2.2.2.2.1.reads (fun y hy => by
        obtain ⟨j, _, rfl⟩ := List.mem_map.1 hy
        show v.getD j 0 ≤ _
        rcases Nat.lt_or_ge j v.length with h1 | h1
        · exact HVB.out _ (getD_mem v j h1)
        · rw [getD_over h1]; omega)
      have HXR := Lib.hid hxr; have HYR := Lib.hid hyr
      have HOE := Lib.hid (HO0.out.trans (HW1.out.trans HTW.out.1))
      clear hxr hyr HTW
      go_wp2
      go_ret2
      exact ⟨_, _, _, _, _, rfl, HQ.out.symm, HXR.out, HYR.out, HOE.out⟩
end Go.Proofs.YtiipgbobgeejmaaDoor

/- Package code: the polynomial that the first known places decide. -/
namespace Go.Proofs.YtiipgbobgeejmaaDoor
open Go.RowKit
set_option linter.unusedVariables false

theorem firstN_sub (kn : Nat → Bool) (n k : Nat) : List.Sublist (firstN kn n k) (List.range k) := (List.take_sublist n _).trans List.filter_sublist
theorem first_diff {f : Int} {K s : Nat} (hv : validD f K s = true) (kn : Nat → Bool) (n : Nat) : Diff f ((firstN kn n (2 ^ K)).map (ptF f K s)) := by
  obtain ⟨hvf, -, hk2, -, -, hsn, -⟩ := validD_nat hv
  exact (ptL_pair hvf hk2 hsn).sublist ((firstN_sub kn n (2 ^ K)).map _)
/-- The polynomial that the first n known places decide. -/
def FillP (f : Int) (K s : Nat) (v : List Nat) (kn : Nat → Bool) (n : Nat) (p : List Nat) : Prop :=
  Norm p ∧ (∀ y ∈ p, y < pOf f) ∧ p.length ≤ n ∧ ∀ i ∈ firstN kn n (2 ^ K), evF f p (ptF f K s i) = v.getD i 0 % pOf f
theorem w_thr (f : Int) (xs ys : List Nat) (v v' : Value) (w : World) (hT : Tab w) (hv : validB f = true) (hR : Reads w v xs) (hR' : Reads w v' ys) (hl : ys.length = xs.length) (hL : xs.length ≤ 1024) (hd : Diff f xs) :
    Calls Tryd.prog 15 #[.int .i64 f, v, v'] w fun e w' => ∃ a, e = .returned (.tuple #[.slice a (thruL f (ptsL xs ys hR.1 hR'.1)).length (thruL f (ptsL xs ys hR.1 hR'.1)).length, .int .i64 0]) ∧ Reads w' (.slice a (thruL f (ptsL xs ys hR.1 hR'.1)).length (thruL f (ptsL xs ys hR.1 hR'.1)).length) (thruL f (ptsL xs ys hR.1 hR'.1)) ∧ On w w' := by
  refine (w_through2 f xs ys v v' w hT hv hR hR' hl hL hR.1 hR'.1).mono ?_
  rintro e w' ⟨⟨-, a, rfl, h⟩ | ⟨h, -⟩, hO⟩
  · exact ⟨a, rfl, h, hO⟩
  · exact absurd (one_ok hv ys hR.1 hR'.1 hd) h
theorem first_getD {α : Type} (l : List Nat) (g : Nat → Nat) (i : Nat) (hi : i < l.length) : (l.map g).getD i 0 = g (l.getD i 0) := by
  rw [List.getD_eq_getElem?_getD, List.getElem?_map, List.getElem?_eq_getElem hi, List.getD_eq_getElem?_getD, List.getElem?_eq_getElem hi]; rfl
theorem fillP_thru {f : Int} {K s : Nat} (hv : validD f K s = true) (v : List Nat) (kn : Nat → Bool) (n : Nat) (hx : ∀ x ∈ (firstN kn n (2 ^ K)).map (ptF f K s), x ≤ 18446744073709551615) (hy : ∀ x ∈ (firstN kn n (2 ^ K)).map (fun i => v.getD i 0), x ≤ 18446744073709551615) :
    FillP f K s v kn n (thruL f (ptsL ((firstN kn n (2 ^ K)).map (ptF f K s)) ((firstN kn n (2 ^ K)).map (fun i => v.getD i 0)) hx hy)) := by
  obtain ⟨hvf, -, -, -, -, -, -⟩ := validD_nat hv
  obtain ⟨h1, h2, h3⟩ := thruL_facts hvf (ptsL ((firstN kn n (2 ^ K)).map (ptF f K s)) ((firstN kn n (2 ^ K)).map (fun i => v.getD i 0)) hx hy)
  rw [ptsL_len, List.length_map] at h3
  refine ⟨h1, h2, Nat.le_trans h3 (firstN_len kn n _), fun i hi => ?_⟩
  obtain ⟨j, hj, rfl⟩ := List.getElem_of_mem hi
  have h := one_val hvf (xs := (firstN kn n (2 ^ K)).map (ptF f K s)) ((firstN kn n (2 ^ K)).map (fun i => v.getD i 0)) hx hy (first_diff hv kn n) j (by rw [List.length_map]; exact hj)
  rw [first_getD (α := Nat) _ _ _ hj, first_getD (α := Nat) _ _ _ hj] at h
  have e : (firstN kn n (2 ^ K)).getD j 0 = (firstN kn n (2 ^ K))[j] := by rw [List.getD_eq_getElem?_getD, List.getElem?_eq_getElem hj]; rfl
  rw [e] at h
  exact h

end Go.Proofs.YtiipgbobgeejmaaDoor

/- Package code: Fill on a word of a domain: what the call returns. -/
namespace Go.Proofs.YtiipgbobgeejmaaDoor
open Go.RowKit
set_option linter.unusedVariables false

set_option maxRecDepth 100000 in
set_option maxHeartbeats 4000000 in
theorem fill_any (f : Int) (K s n : Nat) (v : List Nat) (kn : Nat → Bool) (va vk : Value) (w : World) (hT : Tab w) (hv : validD f K s = true) (hl : v.length = 2 ^ K) (hz : 2 ^ K ≤ 512) (hn : n ≤ 2 ^ K) (hR : Reads w va v) (hK : ReadsK w vk kn (2 ^ K)) (hq : (firstN kn n (2 ^ K)).length = n) :
    ∃ p, FillP f K s v kn n p ∧ Calls Tryd.prog 6 #[.agg #[.int .i64 f, .int .i64 (K : Int), .int .u64 (s : Int)], va, vk, .int .i64 (n : Int)] w fun e w' =>
      (((∀ i, i < 2 ^ K → kn i = true → (valL f K s p).getD i 0 = redF f (v.getD i 0)) ∧ ∃ a, e = .returned (.tuple #[.slice a (2 ^ K) (2 ^ K), .int .i64 0]) ∧ Reads w' (.slice a (2 ^ K) (2 ^ K)) (valL f K s p)) ∨
       ((∃ i, i < 2 ^ K ∧ kn i = true ∧ (valL f K s p).getD i 0 ≠ redF f (v.getD i 0)) ∧ e = .returned (.tuple #[.slice none 0 0, .int .i64 7]))) ∧ On w w' := by
  have hxb : ∀ x ∈ (firstN kn n (2 ^ K)).map (ptF f K s), x ≤ 18446744073709551615 := fun y hy => by obtain ⟨j, _, rfl⟩ := List.mem_map.1 hy; have := ptF_le f K s j; omega
  have hyb : ∀ x ∈ (firstN kn n (2 ^ K)).map (fun i => v.getD i 0), x ≤ 18446744073709551615 := fun y hy => by
    obtain ⟨j, _, rfl⟩ := List.mem_map.1 hy
    show v.getD j 0 ≤ _
    rcases Nat.lt_or_ge j v.length with h1 | h1
    · exact hR.1 _ (getD_mem v j h1)
    · rw [getD_over h1]; omega
  refine ⟨_, fillP_thru hv v kn n hxb hyb, ?_⟩
  have hfp := fillP_thru hv v kn n hxb hyb
  obtain ⟨p, hp⟩ : ∃ p, p = thruL f (ptsL ((firstN kn n (2 ^ K)).map (ptF f K s)) ((firstN kn n (2 ^ K)).map (fun i => v.getD i 0)) hxb hyb) := ⟨_, rfl⟩
  obtain ⟨hvf, hkg, hk2, hs0, hsp, hsn, hsb⟩ := validD_nat hv
  have HTH : Hid (∀ (v1 v2 : Value) w', Tab w' → Reads w' v1 ((firstN kn n (2 ^ K)).map (ptF f K s)) → Reads w' v2 ((firstN kn n (2 ^ K)).map (fun i => v.getD i 0)) → Calls Tryd.prog 15 #[.int .i64 f, v1, v2] w' fun e w'' => ∃ a, e = .returned (.tuple #[.slice a p.length p.length, .int .i64 0]) ∧ Reads w'' (.slice a p.length p.length) p ∧ On w' w'') := fun v1 v2 w' hT h1 h2 => by
    rw [hp]
    exact w_thr f _ _ v1 v2 w' hT hvf h1 h2 (by rw [List.length_map, List.length_map]) (by rw [List.length_map, hq]; omega) (first_diff hv kn n)
  rw [← hp] at hfp ⊢
  have hpl : p.length ≤ 2 ^ K := Nat.le_trans hfp.2.2.1 hn
  obtain ⟨aV, cV, rfl⟩ := hR.shape
  obtain ⟨aK, cK, rfl, hkc⟩ := hK
  have hg18 := grF_le f
  have hple := pOf_le f
  have hO0 : On w (w.alloc (.cells #[.int .i64 f, .int .i64 (K : Int), .int .u64 (s : Int)] 24)) := (On.refl hT).alloc _
  have hS0 := dom_new w (.int .i64 f) (.int .i64 (K : Int)) (.int .u64 (s : Int)) 24
  obtain ⟨u, hu⟩ : ∃ u, u = w.alloc (.cells #[.int .i64 f, .int .i64 (K : Int), .int .u64 (s : Int)] 24) := ⟨_, rfl⟩
  rw [← hu] at hO0 hS0
  have HU := Lib.hid hu
  have HO0 := Lib.hid hO0; have HS0 := Lib.hid hS0
  have HON := Lib.hid (ison_one f K s v.length cV 1 (w.heap.size + 1) aV u u (by rw [hu]; simp) (On.refl hO0.tab) (by omega) (by omega))
  rw [hl, sizeD_nat hv, decide_eq_true rfl, hv, Bool.true_and] at HON
  have hRu := hR.on hO0
  rw [hl] at hRu
  have HR := Lib.hid hRu
  have HKC : Hid (ReadsK u (.slice aK (2 ^ K) cK) kn (2 ^ K)) := (show ReadsK w (.slice aK (2 ^ K) cK) kn (2 ^ K) from ⟨aK, cK, rfl, hkc⟩).on hO0
  have HFK := Lib.hid (fun w' hT hR hK => firstKnown_any f K s n v kn (.slice aV (2 ^ K) cV) (.slice aK (2 ^ K) cK) w' hT hv hl hz (by omega) hR hK)
  rw [hq] at HFK
  have HVL := Lib.hid (fun (u' : Value) w' hT hR => w_values f K s p u' w' (2 ^ K) (valL f K s p) rfl rfl hT (by omega) hsb hkg hR (by omega) (Nat.le_trans (shiftF_len f p s) hpl))
  have HVLN := Lib.hid (valL_len f K s p)
  have HVLB := Lib.hid (valL_bd (k := K) (s := s) (p := p) ((valid_iff f).1 hvf))
  have HVB := Lib.hid hR.1
  have HVF := Lib.hid hvf
  generalize valL f K s p = V at *
  have HRD := Lib.hid (fun i w' (h : i < v.length) hT => reduce_any f (v.getD i 0) w' hT (HVB.out _ (getD_mem v i h)))
  rw [hl]
  obtain ⟨z, hze⟩ : ∃ z, z = 2 ^ K := ⟨_, rfl⟩
  rw [← hze] at hl hz hn HKC HR HON HFK HVL HVLN hpl HTH ⊢
  have HL := Lib.hid hl
  have hnz : (n : Int) ≤ (z : Int) := by omega
  clear hO0 hS0 hu hR hkc hT hv hsb hsn hs0 hk2 hkg hze hl hfp hp hq hRu
  go_enter Tryd.func6, Tryd.ntmps6
  go_wp2_with fail
  rw [← HU.out]
  obtain ⟨b1, b2, b3⟩ := HS0.out
  have hn0 : ¬ ((n : Int) < 0) := by omega
  have hnz2 : ¬ ((z : Int) < (n : Int)) := by omega
  have hn1024 : ¬ ((1024 : Int) < (n : Int)) := by omega
  go_wp2_with (go_at_call 13; with_reducible refine HON.out.mono ?_; rintro e w1 ⟨rfl, hW1⟩; have HW1 := Lib.hid hW1; clear hW1 b1 b2 b3; obtain ⟨b1, b2, b3⟩ := dom_on HS0.out HW1.out)
  go_wp2_with (go_at_call 14; with_reducible refine (HFK.out _ HW1.out.tab (HR.out.on HW1.out) (HKC.out.on HW1.out)).mono ?_; rintro e w2 ⟨q, aX, cX, aY, cY, rfl, rfl, hRX, hRY, hW2⟩; have HW2 := Lib.hid (HW1.out.trans hW2); have HRX := Lib.hid hRX; have HRY := Lib.hid hRY; clear hRX hRY hW2 b1 b2 b3; obtain ⟨b1, b2, b3⟩ := dom_on HS0.out HW2.out)
  go_wp2_with fail
  go_at_call 15
  refine (HTH.out _ _ _ HW2.out.tab HRX.out HRY.out).mono ?_
  rintro e w3 ⟨a3, rfl, hR3, hW3⟩
  have HW3 := Lib.hid (HW2.out.trans hW3)
  have HR3 := Lib.hid hR3
  clear hR3 hW3 b1 b2 b3 HRX HRY HTH HFK HON
  obtain ⟨b1, b2, b3⟩ := dom_on HS0.out HW3.out
  generalize p.length = pl at *
  go_wp2_with fail
  go_at_call 16
  refine (HVL.out _ _ HW3.out.tab HR3.out).mono ?_
  rintro e w4 ⟨a4, rfl, hR4, hW4⟩
  have HW4 := Lib.hid (HW3.out.trans hW4)
  have HR4 := Lib.hid hR4
  clear hR4 hW4 b1 b2 b3 HVL HR3
  have HKW := Lib.hid (HKC.out.on HW4.out)
  have HRW := Lib.hid (HR.out.on HW4.out)
  have HOE := Lib.hid (HO0.out.trans HW4.out)
  have HTW := Lib.hid HW4.out.tab
  have HBW := Lib.hid (dom_on HS0.out HW4.out)
  go_wp2_with fail
  go_loopw [78] (fun vi wr => ∃ i m : Nat, i ≤ z ∧ vi = .int .i64 (i : Int) ∧ Hid (∀ j, j < i → kn j = true → V.getD j 0 = redF f (v.getD j 0)) ∧ Hid (wr = w4.drewN m)) (fun vi _ => z - (intOf vi).toNat)
  case atStart => exact ⟨0, 0, Nat.zero_le _, rfl, (fun j hj => by omega), rfl⟩
  case round =>
    obtain ⟨i, m, hi, rfl, HA, HE⟩ := hrel
    by_cases hlt : i < z
    · have hb := HBW.out
      obtain ⟨b1, b2, b3⟩ : wr.cell? ⟨w.heap.size, 0, none⟩ = some (.int .i64 f) ∧ wr.cell? ⟨w.heap.size, 1, none⟩ = some (.int .i64 (K : Int)) ∧ wr.cell? ⟨w.heap.size, 2, none⟩ = some (.int .u64 (s : Int)) := by rw [HE.out]; exact hb
      obtain ⟨aK', cK', hke, hkc⟩ := HKW.out
      simp only [Value.slice.injEq, true_and] at hke
      obtain ⟨rfl, rfl⟩ := hke
      obtain ⟨bK, oK, rfl, hkcell⟩ := hkc i hlt
      have hkc2 : wr.cell? ⟨bK, oK + i, none⟩ = some (.bool (kn i)) := by rw [HE.out]; exact hkcell
      obtain ⟨-, hcA⟩ := reads_opt (HL.out.symm ▸ HRW.out)
      obtain ⟨bA, oA, rfl, hcellA⟩ := hcA i (by rw [HL.out]; exact hlt)
      have hca2 : wr.cell? ⟨bA, oA + i, none⟩ = some (.int .u64 ((v.getD i 0 : Nat) : Int)) := by rw [HE.out]; exact hcellA
      obtain ⟨-, hcO⟩ := reads_opt (HVLN.out.symm ▸ HR4.out)
      obtain ⟨bO, oO, rfl, hcellO⟩ := hcO i (by rw [HVLN.out]; exact hlt)
      have hco2 : wr.cell? ⟨bO, oO + i, none⟩ = some (.int .u64 ((V.getD i 0 : Nat) : Int)) := by rw [HE.out]; exact hcellO
      have HRDI := Lib.hid (fun nq => HRD.out i (wr.drewN nq) (by rw [HL.out]; exact hlt) (by rw [HE.out]; exact (HTW.out.drewN m).drewN nq))
      have hyes : (kn i = true → V.getD i 0 = redF f (v.getD i 0)) → ∀ j, j < i + 1 → kn j = true → V.getD j 0 = redF f (v.getD j 0) := fun h j hj hk => by
        by_cases e : j = i
        · subst e; exact h hk
        · exact HA.out j (by omega) hk
      have HYES := Lib.hid hyes
      have HNO : Hid (kn i = true → V.getD i 0 ≠ redF f (v.getD i 0) → ∃ i, i < z ∧ kn i = true ∧ V.getD i 0 ≠ redF f (v.getD i 0)) := fun h1 h2 => ⟨i, hlt, h1, h2⟩
      clear hb hkc hkcell hcA hcellA hcO hcellO hyes
      generalize redF f (v.getD i 0) = rv at *
      generalize v.getD i 0 = y at *
      generalize V.getD i 0 = x at *
      have hcs : kn i = false ∨ (kn i = true ∧ x = rv) ∨ (kn i = true ∧ x ≠ rv) := by
        rcases Bool.eq_false_or_eq_true (kn i) with h | h
        · by_cases h2 : x = rv
          · exact .inr (.inl ⟨h, h2⟩)
          · exact .inr (.inr ⟨h, h2⟩)
        · exact .inl h
      rcases hcs with hk | ⟨hk, hx⟩ | ⟨hk, hx⟩
      · have HA2 := Lib.hid (HYES.out (fun h => by rw [hk] at h; cases h))
        rw [hk] at hkc2
        clear hk HNO HYES HA
        go_wp2
        go_quiet (fail)
        go_wp2
        go_roundw
        case rel => exact ⟨i + 1, m + nq, by omega, by go_num, HA2, by unfold Hid; rw [HE.out]; exact World.drewN_drewN _ _ _⟩
        case measure => simp [intOf]; omega
      · have HA2 := Lib.hid (HYES.out (fun _ => hx))
        have hne : (((x : Nat) : Int) != ((rv : Nat) : Int)) = false := by simp [hx]
        rw [hk] at hkc2
        have HX := Lib.hid hx
        clear hk hx HNO HYES HA
        go_wp2
        go_quiet ((go_at_call 17; with_reducible exact quiet_of_eq (HRDI.out _)))
        go_wp2
        go_roundw
        case rel => exact ⟨i + 1, m + nq, by omega, by go_num, HA2, by unfold Hid; rw [HE.out]; exact World.drewN_drewN _ _ _⟩
        case measure => simp [intOf]; omega
      · have HN2 := Lib.hid (HNO.out hk hx)
        have hne : (((x : Nat) : Int) != ((rv : Nat) : Int)) = true := by simp; omega
        rw [hk] at hkc2
        have HX := Lib.hid hx
        clear hk hx HNO HYES HA
        go_wp2
        go_quiet ((go_at_call 17; with_reducible exact quiet_of_eq (HRDI.out _)))
        go_wp2
        go_ret2
        exact ⟨.inr ⟨HN2.out, rfl⟩, by rw [HE.out]; exact (HOE.out.drewN m).drewN nq⟩
    · obtain rfl : i = z := by omega
      go_wp2
      go_ret2
      exact ⟨.inl ⟨HA.out, a4, rfl, by rw [HE.out]; exact HR4.out.drewN m⟩, by rw [HE.out]; exact HOE.out.drewN m⟩
end Go.Proofs.YtiipgbobgeejmaaDoor

/- The laws' own calls: four, domain, word: what each returns. -/
namespace Go.Proofs.YtiipgbobgeejmaaDoor
open Go.RowKit
set_option linter.unusedVariables false

set_option maxHeartbeats 1000000 in
theorem four_any (W w : World) (hW : On W w) : Calls Tryd.prog 29 #[] w fun e w' => e = .returned (.agg #[.int .i64 0, .int .i64 2, .int .u64 5]) ∧ On W w' := by
  have hge := hW.size
  have HO0 := Lib.hid (hW.alloc (.cells #[.int .i64 0, .int .i64 0, .int .u64 0] 24))
  obtain ⟨q1, q2, q3, q4, q5, q6, q7, q8, q9⟩ := dom_facts (On.refl HO0.out.tab) (.int .i64 0) (.int .i64 2) (.int .u64 5)
  go_enter Tryd.func29, Tryd.ntmps29
  go_wp2
  (try simp only [Exit.inBlock, Exit.then])
  refine bodyPost_ret (by simp [results, Tryd.results29, go_sem, q7, q8, q9]; try rfl) rfl ?_
  exact ⟨rfl, hW.alloc _⟩

/-- The shift that the laws take. -/
def shD (X : Int) (s : Nat) : Nat := if redF X s = 0 then 1 else redF X s
theorem shD_valid (X : Int) (N s : Nat) (hv : validB X = true) (hN : N ≤ 5) : validD X N (shD X s) = true := by
  have hp := (valid_iff X).1 hv
  have h97 := big X hv
  have hg : 5 ≤ grF X := by rcases field_cases X hv with rfl | rfl | rfl | rfl <;> decide
  have h1 : shD X s ≠ 0 ∧ shD X s < pOf X := by
    unfold shD
    have : redF X s < pOf X := by rw [redF_pos _ _ hp]; exact Nat.mod_lt _ hp
    split
    · omega
    · omega
  unfold validD
  rw [hv, decide_eq_true (show (0 : Int) ≤ (N : Int) by omega), decide_eq_true (show (N : Int) ≤ (grF X : Int) by omega), decide_eq_true h1.1, decide_eq_true h1.2]
  rfl
theorem shD_le (X : Int) (s : Nat) : shD X s ≤ 998244353 := by have := redF_le X s; unfold shD; split <;> omega
theorem valL_take (f : Int) (k s : Nat) (p : List Nat) (i : Nat) (hv : validB f = true) (hi : i < 2 ^ k) : (valL f k s p).take (i + 1) = (valL f k s p).take i ++ [evF f p (ptF f k s i)] := by
  rw [take_snoc _ i (by rw [valL_len]; exact hi), valL_ptL hv p s i hi]
end Go.Proofs.YtiipgbobgeejmaaDoor
