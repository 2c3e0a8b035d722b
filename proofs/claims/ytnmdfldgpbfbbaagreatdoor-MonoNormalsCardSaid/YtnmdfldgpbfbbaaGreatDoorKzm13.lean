/- Package mono: add. -/
import Derived.Test.YtnmdfldgpbfbbaaGreatDoorKzm11
import Derived.Test.YtnmdfldgpbfbbaaGreatDoorKzm12
import Derived.Maps.OwnSet
set_option linter.unusedSimpArgs false
set_option linter.unusedVariables false
/- Package mono: add. -/
namespace Go.Proofs.YtnmdfldgpbfbbaaGreatDoor
open Go.Shelf Go.RowKit Go.Lib Go.Sort
set_option linter.unusedVariables false

theorem lawS : Maps.Keyed Tryz.prog 9 := Maps.string_keyed Tryz.underlying9
theorem cell_two_new (w : World) (x y : Value) (t : TypeId) : ∀ j u, [x, y][j]? = some u → (w.alloc (.cells #[x, y] t)).cell? ((⟨w.heap.size, 0, none⟩ : Addr).add j) = some u := by
  intro j u hj
  rw [add_plain, Nat.zero_add, World.cell?_alloc_new]
  simpa using hj
theorem grown_tr {a b c : World} {row : Option Nat} (h : a.grownBy b row) (k : b.grownBy c row) : a.grownBy c row :=
  ⟨k.os.trans h.os, k.tape.trans h.tape, k.output.trans h.output, Nat.le_trans h.size k.size, fun i hi hb => (k.block i (Nat.lt_of_lt_of_le hi h.size) hb).trans (h.block i hi hb)⟩
theorem zeroI (w : World) : (zeroValue 3).run Tryz.prog w = .ok (.int .i64 0) w := by kernel_rfl
set_option maxRecDepth 100000 in
set_option maxHeartbeats 1500000 in
theorem cadd_any {W0 : World} (X : Nat → Prop) (C : Nat) (f : Int) (L : List Mo) (coef : Nat) (F : Nat → List Vr) (m : Nat) (v : Value) (w : World) (hO : On W0 w) (hP : Pw w) (hCol : Col X W0.heap.size C f w L) (hR : VLs w v m F) (hok : ∀ x ∈ catF F m, okV x) (hN : (catF F m).length ≤ 1000000) (hL : L.length ≤ 1000000) (hc : coef ≤ 18446744073709551615) :
    Calls Tryz.prog 18 #[.pointer (some ⟨C, 0, none⟩), .int .u64 (coef : Int), v] w fun e w' => e = .returned (.tuple #[]) ∧ Col X W0.heap.size C f w' (addM f L coef (catF F m)) ∧ On W0 w' ∧ ∀ g, X g → w'.heap[g]? = w.heap[g]? := by
  have HC1 := Lib.hid (concatv_any v m F w hO.tab hR hN)
  obtain ⟨l, hl⟩ : ∃ l, l = catF F m := ⟨_, rfl⟩
  rw [← hl] at HC1 hok hN
  have HL := Lib.hid hl
  have HO := Lib.hid hO
  have HP := Lib.hid hP
  have HCOL := Lib.hid hCol
  have HXW : Hid (∀ g, X g → g < w.heap.size) := fun g hg => by obtain ⟨_, _, _, _, _, _, _, _, _, _, h6⟩ := hCol; exact (h6 g hg).1
  have HOK := Lib.hid hok
  have hsl : (srtV l).length = l.length := sortB_len _ _
  clear hl hO hP hCol hR hok
  go_enter Tryz.func18, Tryz.ntmps18
  go_wp2_with (go_at_call 40; refine HC1.out.mono ?_; rintro e w1 ⟨⟨u, rfl, hown1⟩, hO1⟩; refine Hid.out ?_)
  refine Lib.hid ?_
  have HS := Lib.hid (sort_own hown1 HOK.out hN)
  have HO1 := Lib.hid hO1
  clear hown1 hO1 HC1
  go_wp2_with (go_at_call 41; refine HS.out.mono ?_; rintro e w2 ⟨rfl, hE2, hW2⟩; refine Hid.out ?_)
  refine Lib.hid ?_
  have HO2 : Hid (On w w2) := hW2 w HO1.out (Nat.le_refl _)
  have HE2 := Lib.hid hE2
  obtain ⟨us, hus⟩ : ∃ us, us = srtV l := ⟨_, rfl⟩
  rw [← hus] at HE2 hsl
  have hul : us.length ≤ 1000000 := by omega
  clear hsl
  have HUS := Lib.hid hus
  have HUK : Hid (∀ x ∈ us, okV x) := HE2.out.1.1
  have HK := Lib.hid (key_any us u w2 HO2.out.tab (HP.out.on HO2.out) HE2.out.1 hul)
  obtain ⟨au, cu, rfl⟩ := HE2.out.shape
  clear hE2 hW2 HS HO1 hus
  go_wp2_with (go_at_call 43; refine HK.out.mono ?_; rintro e w3 ⟨rfl, hO3⟩; refine Hid.out ?_)
  refine Lib.hid ?_
  have HO3 := Lib.hid (HO2.out.trans hO3)
  have HE3 := Lib.hid (HE2.out.on hO3)
  have HOZ := Lib.hid (HO.out.trans HO3.out)
  have HC3 := HCOL.out.on HO3.out
  clear hO3 HE2 HO2 HK HCOL
  have HRES0 : Hid (addM f L coef (catF F m) = putM f L coef us) := by unfold Hid addM; rw [← HL.out, ← HUS.out]
  obtain ⟨sv, Z, bm, D, ⟨hB1, hB2, hco⟩, h1, h2, h3, h4, h5, h6⟩ := id HC3
  have HXO : Hid (∀ g, X g → w3.heap[g]? = w.heap[g]?) := fun g hg => HO3.out.2.block g (HXW.out g hg)
  have HX6 := Lib.hid h6
  clear h6
  have hix := h5.2 us HUK.out
  obtain ⟨asv, csv, hsv⟩ : ∃ asv csv, sv = .slice asv L.length csv := by
    rcases h2.2 with ⟨h, h0⟩ | ⟨g, cap, cur, h, _⟩
    · exact ⟨none, 0, by rw [h0]; exact h⟩
    · exact ⟨_, _, h⟩
  subst hsv
  have c1 : w3.cell? ⟨C, 1, none⟩ = some (.slice asv L.length csv) := by simp [World.cell?, h1]
  have c2 : w3.cell? ⟨C, 2, none⟩ = some (.map (some bm)) := by simp [World.cell?, h1]
  have hkey : keyOf Tryz.prog 9 (.string ⟨(keyB us).toArray⟩) = some (klV us) := by
    have hkl := keyB_len us HUK.out
    have := WideMaps.keyOf_string_mk (P := Tryz.prog) (k := 9) Tryz.underlying9 (s := ⟨(keyB us).toArray⟩) (by unfold maxLen; simp [ByteArray.size]; omega)
    simpa using this
  obtain ⟨kl, hklv⟩ : ∃ kl, kl = klV us := ⟨_, rfl⟩
  obtain ⟨ks, hks⟩ : ∃ ks, ks = (⟨(keyB us).toArray⟩ : ByteArray) := ⟨_, rfl⟩
  rw [← hklv] at hix
  rw [← hklv, ← hks] at hkey
  have HKS := Lib.hid hks
  have HKL := Lib.hid hklv
  have HOWN := Lib.hid h3
  clear hks hklv
  rw [← HKS.out]
  cases hid : idx L us with
  | some i =>
    obtain ⟨hi, hi2, hput⟩ := putM_some f L coef us i hid
    have hhas : Maps.has D kl = true := by rw [hix.1, hid]; rfl
    have HAT := Lib.hid (hix.2 i hid)
    have HRES : Hid (addM f L coef (catF F m) = L.set i (addF f (L.getD i zM).1 coef, (L.getD i zM).2)) := by unfold Hid; rw [HRES0.out, hput, hi2]
    have HCOL := Lib.hid HC3
    clear HC3 hix hid hput hi2 h1 h2 h3 h4 h5 HRES0
    go_wp2_with (at_lookup; refine wpList_lookup_own_ok_int _ rfl _ _ 72 rfl 9 3 .i64 lawS Tryz.underlying72 Tryz.underlying3 (zeroI _) bm L.length D rfl HOWN.out _ kl rfl hkey ?_; intro cx hat hwc; (obtain rfl : cx = (i : Int) := by rw [HAT.out] at hat; simpa using hat.symm))
    clear HOWN c1 c2
    have HXZ := HXO
    have hix0 : i < L.length := by exact hi
    have HOP := HCOL.out.open i hix0
    obtain ⟨gs, cp, hgs, hlc, hcp, d0, d1, d2, d3, d4, hxgs, HST⟩ := HOP
    have HXG := Lib.hid hxgs
    clear hxgs
    have HST := Lib.hid HST
    obtain ⟨cf, hcf⟩ : ∃ cf, cf = (L.getD i zM).1 := ⟨_, rfl⟩
    rw [← hcf] at d2 d4
    have HCF := Lib.hid hcf
    clear hcf
    obtain ⟨nl, hnl⟩ : ∃ nl, nl = L.length := ⟨_, rfl⟩
    rw [← hnl] at d1 hlc
    have hilt : (i : Int) < (nl : Int) := by have := hnl; omega
    clear hnl hix0
    have hwi : IntKind.i64.wrap (i : Int) = (i : Int) := IntWalk.i64_in _ (by omega)
    have hi0 : (0 : Int) ≤ (i : Int) := by omega
    have haf := addF_le f cf coef
    have HADD := Lib.hid (fun w hT => add_any f cf coef w hT (by omega) (by omega))
    have HTB := Lib.hid (fun n => HOZ.out.tab.drewN n)
    refine region_quiet_tail 21 (by kernel_rfl) (by kernel_rfl) ?_
    simp only [List.take_succ_cons, List.take_zero, List.drop_succ_cons, List.drop_zero]
    repeat (quiet_step ((go_at_call 38; exact quiet_of_eq (HADD.out _ (HTB.out _)))))
    refine wpQuiet_nil ?_
    intro _ hw'
    obtain ⟨nq, hw''⟩ := hw'
    subst hw''
    have d2q : (w3.drewN nq).cell? ⟨gs, i * 2, none⟩ = _ := d2
    have d3q : (w3.drewN nq).frozen? ⟨gs, i * 2, none⟩ = false := d3
    go_wp2
    go_end0
    exact ⟨rfl, by rw [HRES.out]; rw [← HCF.out]; exact HST.out _ nq haf, (HOZ.out.drewN nq).setCell hgs _, fun g hg => (Below.heap_setCell _ _ _ _ (HXG.out g hg)).trans (HXZ.out g hg)⟩
  | none =>
    have hput := putM_none f L coef us hid
    have hhas : Maps.has D kl = false := by rw [hix.1, hid]; rfl
    obtain ⟨LL, hLL⟩ : ∃ LL, LL = L ++ [((0 : Nat), us)] := ⟨_, rfl⟩
    have HRES : Hid (addM f L coef (catF F m) = LL.set L.length (addF f (LL.getD L.length zM).1 coef, (LL.getD L.length zM).2)) := by
      have e : LL.getD L.length zM = ((0 : Nat), us) := by rw [hLL, getD_snoc _ _ _ _ (by omega), if_neg (by omega)]
      unfold Hid; rw [HRES0.out, hput, e, hLL, List.set_append_right _ _ (Nat.le_refl _), Nat.sub_self]; rfl
    have HLLL : Hid (LL.length = L.length + 1) := by unfold Hid; rw [hLL]; simp
    have hCb : ∃ x, C ≠ bm ∧ x = C := ⟨C, map_ne h1 h3, rfl⟩
    have HIX : Hid (Ix (D.put kl (.lit (.int .i64 (L.length : Int)))) LL) := by unfold Hid; rw [hLL, HKL.out]; exact h5.snoc 0 us HUK.out hid
    have HFI := Lib.hid h4
    have H1 := Lib.hid h1
    have H2 := Lib.hid h2
    obtain ⟨-, hCbm, -⟩ := hCb
    have HCBM := Lib.hid hCbm
    have HSVB : Hid (∀ g, (Value.slice asv L.length csv).ownBlock = some g → (∃ cur fz, w3.heap[g]? = some (.cells cur 34 fz)) ∧ g ≠ bm) := fun g hg => by
      rcases h2.2 with ⟨h, -⟩ | ⟨g', cap, cur, h, hb, hgg, _⟩
      · rw [h] at hg; simp [Value.ownBlock] at hg
      · rw [h] at hg; simp only [Value.ownBlock, Option.some.injEq] at hg; subst hg
        exact ⟨⟨_, _, hgg⟩, map_ne hgg h3⟩
    obtain ⟨k, hk⟩ : ∃ k, k = L.length := ⟨_, rfl⟩
    rw [← hk] at c1 HOWN hL HRES HIX H2 HSVB HLLL HX6
    have HLN := Lib.hid hk
    have HCO := Lib.hid hco
    have hwf : (Lit.int .i64 (k : Int)).wf = true := WalkArith.wf_i64 (by omega)
    have HVAL := Lib.hid (plainElem_int (H := Unit) (P := Tryz.prog) (e := 3) Tryz.underlying3 hwf)
    have HE3b := Lib.hid HE3.out
    have HLEQ := Lib.hid hLL
    clear HC3 hix hid hput h1 h2 h3 h4 h5 HRES0 hLL hCbm hk hco hwf HE3 HKL
    go_wp2_with (first | (at_lookup; refine wpList_lookup_own_ok_int _ rfl _ _ 72 rfl 9 3 .i64 lawS Tryz.underlying72 Tryz.underlying3 (zeroI _) bm k D rfl HOWN.out _ kl rfl hkey ?_; intro cx hat hwc) | (at_mapUpdate; refine wpList_mapUpdate_own _ rfl _ _ _ 72 rfl 9 3 lawS Tryz.underlying72 (plainElem Tryz.prog 3) bm k D rfl HOWN.out (by unfold maxLen; omega) _ _ kl rfl rfl hkey (.lit (.int .i64 (k : Int))) [] HVAL.out ?_; intro w4 hown4 hg4; refine Hid.out ?_))
    refine Lib.hid ?_
    have hC3 := (Array.getElem?_eq_some_iff.1 H1.out).1
    have H14 : Hid (w4.heap[C]? = some (.cells #[.int .i64 f, .slice asv k csv, .map (some bm)] 74 (0, 0))) := by
      unfold Hid; rw [hg4.block C hC3 (fun e => HCBM.out (by simpa using e))]; have := H1.out; rw [← HLN.out] at this; exact this
    have H24 := Lib.hid (H2.out.kept hg4 (by
      cases hv : (Value.slice asv k csv).ownBlock with
      | none => exact .inl rfl
      | some g => exact .inr (fun e => (HSVB.out g hv).2 (by simpa using e))))
    have hmapn : ∀ r, (some bm : Option Nat) = some r → ∀ cur fz, w3.heap[r]? ≠ some (.cells cur 39 fz) := fun r hr cur fz e => by
      simp only [Option.some.injEq] at hr; subst hr
      exact map_ne e HOWN.out rfl
    have HF4 := Lib.hid (HFI.out.gb hg4 hmapn)
    have HE4 := Lib.hid (HE3b.out.gb hg4 hmapn)
    have HM4 := Lib.hid hown4
    have HSV4 : Hid (∀ g, (Value.slice asv k csv).ownBlock = some g → (∃ cur fz, w4.heap[g]? = some (.cells cur 34 fz)) ∧ g ≠ bm) := fun g hg => by
      obtain ⟨⟨cur, fz, h1⟩, h2⟩ := HSVB.out g hg
      exact ⟨⟨cur, fz, by rw [hg4.block g (Array.getElem?_eq_some_iff.1 h1).1 (fun e => h2 (by simpa using e))]; exact h1⟩, h2⟩
    have HX4 : Hid (∀ g, X g → g < w4.heap.size ∧ g ≠ C ∧ g ≠ bm ∧ (Value.slice asv k csv).ownBlock ≠ some g) := fun g hg => ⟨Nat.lt_of_lt_of_le (HX6.out g hg).1 hg4.size, (HX6.out g hg).2⟩
    have HXZ4 : Hid (∀ g, X g → w4.heap[g]? = w.heap[g]?) := fun g hg => (hg4.block g (HX6.out g hg).1 (fun e => (HX6.out g hg).2.2.1 (by simpa using e))).trans (HXO.out g hg)
    have HOZ4 : Hid (On W0 w4) := HOZ.out.gbv hg4 (fun r hr => by simp only [Option.some.injEq] at hr; omega)
    have c14 : w4.cell? ⟨C, 1, none⟩ = some (.slice asv k csv) := by have := H14.out; simp [World.cell?, this]
    clear H1 H2 HFI HE3b hown4 HSVB HOWN hmapn hC3 c1 c2 HOZ hg4
    obtain ⟨i0, hi, hz0, hz1, hz2⟩ := info_parts info_mo
    obtain ⟨v5, w5, hrun5, hown5, hg5, hloc5⟩ := append_cells (P := Tryz.prog) (w4.alloc (.cells #[.int .u64 0, .slice au us.length cu] 34)) W0.heap.size 22 34 i0 (.agg #[.int .u64 0, .slice none 0 0]) 2 32 Tryz.underlying22 hi hz0 hz1 hz2 rfl (by omega) _ k _ (H24.out.alloc _) (some ⟨w4.heap.size, 0, none⟩) 1 1 [.int .u64 0, .slice au us.length cu] rfl (fun _ => ⟨_, rfl, cell_two_new w4 _ _ _⟩) (by intro u hu; simp at hu; rcases hu with rfl | rfl <;> rfl) (by unfold maxLen; omega) (by omega) (by have := HOZ4.out.size; simp; omega)
    obtain ⟨g5, cap5, rfl⟩ : ∃ g5 cap5, v5 = .slice (some ⟨g5, 0, none⟩) (k + 1) cap5 := by
      rcases hown5.2 with ⟨-, h0⟩ | ⟨g5, cap5, cur5, h, _⟩
      · omega
      · exact ⟨g5, cap5, h⟩
    have HRUN5 := Lib.hid hrun5
    have hal := World.grownBy_alloc w4 (.cells #[.int .u64 0, .slice au us.length cu] 34) (Value.slice asv k csv).ownBlock
    have hg45 := grown_tr hal hg5
    have hC4 := (Array.getElem?_eq_some_iff.1 H14.out).1
    have H15 : Hid (w5.heap[C]? = some (.cells #[.int .i64 f, .slice asv k csv, .map (some bm)] 74 (0, 0))) := by
      unfold Hid; rw [hg45.block C hC4 (fun e => by
        obtain ⟨⟨cur, fz, h1⟩, -⟩ := HSV4.out C e.symm
        exact tag_ne H14.out h1 (by decide) rfl)]; exact H14.out
    have hvar : ∀ r, (Value.slice asv k csv).ownBlock = some r → ∀ cur fz, w4.heap[r]? ≠ some (.cells cur 39 fz) := fun r hr cur fz e => by
      obtain ⟨⟨cur2, fz2, h1⟩, -⟩ := HSV4.out r hr
      exact tag_ne h1 e (by decide) rfl
    have HF5 := Lib.hid (HF4.out.gb hg45 hvar)
    have HE5 := Lib.hid (HE4.out.gb hg45 hvar)
    have HM5 := Lib.hid (HM4.out.kept hg45 (fun e => (HSV4.out bm e.symm).2 rfl))
    have HOZ5 : Hid (On W0 w5) := HOZ4.out.gbv hg45 (fun r hr => ownsRow_below H24.out r hr)
    have f5 : w5.frozen? ⟨C, 1, none⟩ = false := by have := H15.out; simp [World.frozen?, this]
    have c5 : w5.cell? ⟨C, 1, none⟩ = some (.slice asv k csv) := by have := H15.out; simp [World.cell?, this]
    have hCne : (Value.slice (some ⟨g5, 0, none⟩) (k + 1) cap5).ownBlock ≠ some C := fun e => by
      rcases hown5.2 with ⟨h, -⟩ | ⟨g', cap, cur, h, hb, hgg, _⟩
      · rw [h] at e; simp [Value.ownBlock] at e
      · rw [h] at e; simp only [Value.ownBlock, Option.some.injEq] at e; subst e
        exact tag_ne H15.out hgg (by decide) rfl
    have HX5 : Hid (∀ g, X g → g < w5.heap.size ∧ g ≠ C ∧ g ≠ bm ∧ (Value.slice (some ⟨g5, 0, none⟩) (k + 1) cap5).ownBlock ≠ some g) := fun g hg => by
      obtain ⟨p1, p2, p3, p4⟩ := HX4.out g hg
      refine ⟨Nat.lt_of_lt_of_le p1 hg45.size, p2, p3, fun e => ?_⟩
      rcases hloc5 with e2 | e2
      · rw [e2] at e; exact p4 e
      · rw [e2] at e; simp at e; omega
    have HXZ5 : Hid (∀ g, X g → w5.heap[g]? = w.heap[g]?) := fun g hg => (hg45.block g (HX4.out g hg).1 (fun e => (HX4.out g hg).2.2.2 e.symm)).trans (HXZ4.out g hg)
    have HXZ : Hid (∀ g, X g → (w5.setCell ⟨C, 1, none⟩ (.slice (some ⟨g5, 0, none⟩) (k + 1) cap5)).heap[g]? = w.heap[g]?) := fun g hg => (Below.heap_setCell _ _ _ _ (HX5.out g hg).2.1).trans (HXZ5.out g hg)
    have HCOL6 : Hid (Col X W0.heap.size C f (w5.setCell ⟨C, 1, none⟩ (.slice (some ⟨g5, 0, none⟩) (k + 1) cap5)) LL) := by
      obtain ⟨Z2, hZ2⟩ : ∃ Z2, Z2 = Z ++ [((0 : Nat), Value.slice au us.length cu)] := ⟨_, rfl⟩
      have hmc : mcells Z ++ [Value.int .u64 0, .slice au us.length cu] = mcells Z2 := by rw [hZ2, mcells_append]; rfl
      rw [hmc] at hown5
      have hgs := setCell_gb w5 ⟨C, 1, none⟩ (.slice (some ⟨g5, 0, none⟩) (k + 1) cap5)
      have hcol : ∀ r, (some C : Option Nat) = some r → ∀ cur fz, w5.heap[r]? ≠ some (.cells cur 39 fz) := fun r hr cur fz e => by
        simp only [Option.some.injEq] at hr; subst hr; exact tag_ne H15.out e (by decide) rfl
      refine ⟨_, Z2, bm, _, ⟨hB1, hB2, fun mm hmm => ?_⟩, ?_, by rw [HLLL.out]; exact ownsRow_setCell_other hown5 hCne _, by rw [HLLL.out]; exact HM5.out.setCell (fun e => HCBM.out e.symm) _, ?_, HIX.out, fun g hg => ⟨by simp [World.setCell]; exact (HX5.out g hg).1, (HX5.out g hg).2⟩⟩
      · rw [HLEQ.out] at hmm
        rcases List.mem_append.1 hmm with h | h
        · exact HCO.out mm h
        · simp only [List.mem_singleton] at h; subst h; simp
      · have := Go.heap_setCell_same w5 C 1 _ _ (.slice (some ⟨g5, 0, none⟩) (k + 1) cap5) H15.out; simpa using this
      · rw [hZ2, HLEQ.out]; exact (HF5.out.gb hgs hcol).snoc 0 _ us (HE5.out.gb hgs hcol)
    have HOZ : Hid (On W0 (w5.setCell ⟨C, 1, none⟩ (.slice (some ⟨g5, 0, none⟩) (k + 1) cap5))) := HOZ5.out.setCell hB1 _
    have hkl1 : k < LL.length := by rw [HLLL.out]; omega
    have HKL1 := Lib.hid hkl1
    obtain ⟨w6, hw6⟩ : ∃ w6, w6 = w5.setCell ⟨C, 1, none⟩ (.slice (some ⟨g5, 0, none⟩) (k + 1) cap5) := ⟨_, rfl⟩
    rw [← hw6] at HCOL6 HOZ HXZ
    have HW6 := Lib.hid hw6
    clear hw6
    clear HF4 HE4 HM4 HSV4 HOZ4 H14 H24 hi hz0 hz1 hz2 hrun5 hown5 hg5 hloc5 hal hg45 hC4 hvar HF5 HE5 HM5 HOZ5 HIX HLEQ HCO hCne hkl1 H15 HLLL HLN
    go_wp2_with (at_builtin; refine wp_appendJ rfl (.tmp 42) (.tmp 45) _ _ rfl _ _ (.slice (some ⟨g5, 0, none⟩) (k + 1) cap5) rfl rfl HRUN5.out ?_)
    rw [← HW6.out]
    clear c5 f5 c14 HRUN5
    have HCOL := HCOL6
    have hix0 : k < LL.length := by exact HKL1.out
    have HOP := HCOL.out.open k hix0
    obtain ⟨gs, cp, hgs, hlc, hcp, d0, d1, d2, d3, d4, hxgs, HST⟩ := HOP
    have HXG := Lib.hid hxgs
    clear hxgs
    have HST := Lib.hid HST
    obtain ⟨cf, hcf⟩ : ∃ cf, cf = (LL.getD k zM).1 := ⟨_, rfl⟩
    rw [← hcf] at d2 d4
    have HCF := Lib.hid hcf
    clear hcf
    obtain ⟨nl, hnl⟩ : ∃ nl, nl = LL.length := ⟨_, rfl⟩
    rw [← hnl] at d1 hlc
    have hilt : (k : Int) < (nl : Int) := by have := hnl; omega
    clear hnl hix0
    have hwi : IntKind.i64.wrap (k : Int) = (k : Int) := IntWalk.i64_in _ (by omega)
    have hi0 : (0 : Int) ≤ (k : Int) := by omega
    have haf := addF_le f cf coef
    have HADD := Lib.hid (fun w hT => add_any f cf coef w hT (by omega) (by omega))
    have HTB := Lib.hid (fun n => HOZ.out.tab.drewN n)
    refine region_quiet_tail 21 (by kernel_rfl) (by kernel_rfl) ?_
    simp only [List.take_succ_cons, List.take_zero, List.drop_succ_cons, List.drop_zero]
    repeat (quiet_step ((go_at_call 38; exact quiet_of_eq (HADD.out _ (HTB.out _)))))
    refine wpQuiet_nil ?_
    intro _ hw'
    obtain ⟨nq, hw''⟩ := hw'
    subst hw''
    have d2q : (w6.drewN nq).cell? ⟨gs, k * 2, none⟩ = _ := d2
    have d3q : (w6.drewN nq).frozen? ⟨gs, k * 2, none⟩ = false := d3
    go_wp2
    go_end0
    exact ⟨rfl, by rw [HRES.out]; rw [← HCF.out]; exact HST.out _ nq haf, (HOZ.out.drewN nq).setCell hgs _, fun g hg => (Below.heap_setCell _ _ _ _ (HXG.out g hg)).trans (HXZ.out g hg)⟩
end Go.Proofs.YtnmdfldgpbfbbaaGreatDoor
