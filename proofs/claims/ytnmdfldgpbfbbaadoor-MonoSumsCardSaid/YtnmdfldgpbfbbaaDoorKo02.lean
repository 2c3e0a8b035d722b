/- The document's Normal. -/
import Derived.Test.YtnmdfldgpbfbbaaDoorKo01
set_option linter.unusedSimpArgs false
set_option linter.unusedVariables false
/- The document's Normal. -/
namespace Go.Proofs.YtnmdfldgpbfbbaaDoor
open Go.Shelf Go.RowKit Go.Lib Go.Sort
set_option linter.unusedVariables false

theorem coefU_snoc (s : List Mo) (x : Mo) (u : List Vr) : coefU (s ++ [x]) u = coefU s u + if srtV x.2 = u then x.1 else 0 := by simp [coefU]
theorem nz_snoc (s : List Mo) (x : Mo) : nz (s ++ [x]) = nz s ++ if x.1 = 0 then [] else [x] := by
  unfold nz
  rw [List.filter_append, List.filter_cons, List.filter_nil]
  by_cases h : x.1 = 0 <;> simp [h]
theorem ord_nf {f : Int} {D : List Mo} (h : Ord f D) : NF f (nz D) :=
  ⟨h.1.sublist List.filter_sublist, fun m hm => ⟨by have := (List.mem_filter.1 hm).2; simpa using this, h.2 m (List.mem_filter.1 hm).1⟩⟩
theorem put_coef {f : Int} (hp : 0 < pOf f) {s D D2 : List Mo} {k : Nat} (hk : k < s.length) (h : ∀ u, coefN D u % pOf f = coefU (s.take k) u % pOf f)
    (h2 : ∀ u, coefN D2 u % pOf f = (coefN D u + if srtV (s.getD k zM).2 = u then addF f (s.getD k zM).1 0 else 0) % pOf f) : ∀ u, coefN D2 u % pOf f = coefU (s.take (k + 1)) u % pOf f := fun u => by
  rw [h2 u, take_snoc_m s zM k hk, coefU_snoc]
  refine mod_addc (h u) ?_
  split
  · rw [addF_pos f _ _ hp, Nat.mod_mod, Nat.add_zero]
  · rfl
theorem radd0_any (f : Int) (a : Nat) (w : World) (ha : a ≤ 18446744073709551615) :
    Calls Tryd.prog 20 #[.int .i64 f, .int .u64 (a : Int), .int .u64 0] w fun e w' => e = .returned (.int .u64 ((addF f a 0 : Nat) : Int)) ∧ Drawn w w' := radd_any f a 0 w ha (by omega)
theorem rnormal_no (f : Int) (v : Value) (w : World) (hT : Tab w) (hv : validB f = false) :
    Calls Tryd.prog 34 #[.int .i64 f, v] w fun e w' => e = .returned (.tuple #[.slice none 0 0, .int .i64 1]) ∧ On w w' := by
  have HV : Hid (∀ w, Calls Tryd.prog 22 #[.int .i64 f] w fun e w' => e = .returned (.bool false) ∧ w = w') := fun w => by have h := rvalid12_any f w; rw [hv] at h; exact h
  have H0 := Lib.hid (On.refl hT)
  clear hv hT
  go_enter Tryd.func34, Tryd.ntmps34
  go_wp2_with (go_at_call 22; refine (HV.out _).mono ?_; rintro e w' ⟨rfl, rfl⟩)
  go_ret2
  exact ⟨rfl, H0.out⟩
set_option maxRecDepth 100000 in
set_option maxHeartbeats 4000000 in
theorem rnormal_yes (f : Int) (s : List Mo) (v : Value) (w : World) (hT : Tab w) (hv : validB f = true) (hR : MRd w v s) (hs : s.length ≤ 100000) (hl : ∀ m ∈ s, m.2.length ≤ 200000) :
    Calls Tryd.prog 34 #[.int .i64 f, v] w fun e w' => (∃ u, e = .returned (.tuple #[u, .int .i64 0]) ∧ MRd w' u (normS f s)) ∧ On w w' := by
  have hp := (valid_iff f).1 hv
  have HV : Hid (∀ w, Calls Tryd.prog 22 #[.int .i64 f] w fun e w' => e = .returned (.bool true) ∧ w = w') := fun w => by have h := rvalid12_any f w; rw [hv] at h; exact h
  obtain ⟨aa, ca, rfl⟩ := hR.shape
  have HC := Lib.hid hR.cells
  have HLE := Lib.hid hR.le
  have HVL : Hid (∀ k, (s.getD k zM).2.length ≤ 200000) := fun k => by
    rcases Nat.lt_or_ge k s.length with h | h
    · rw [List.getD_eq_getElem?_getD, List.getElem?_eq_getElem h]; exact hl _ (List.getElem_mem _)
    · rw [List.getD_eq_getElem?_getD, List.getElem?_eq_none h]; simp
  have HPP := Lib.hid hp
  have H0 := Lib.hid (On.refl hT)
  obtain ⟨n, hn⟩ : ∃ n, s.length = n := ⟨_, rfl⟩
  have HN := Lib.hid hn
  rw [hn] at HC hs ⊢
  clear hT hR hl hv hp hn
  go_enter Tryd.func34, Tryd.ntmps34
  go_wp2_with (go_at_call 22; refine (HV.out _).mono ?_; rintro e w' ⟨rfl, rfl⟩)
  clear HV
  go_loopw [6, 8] (fun vs vi wr => ∃ k : Nat, k ≤ n ∧ vi = .int .i64 (k : Int) ∧ ∃ oa q cap D, vs = .slice oa q cap ∧ q ≤ cap ∧ cap ≤ 9223372036854775807 ∧ q ≤ k ∧ Hid (MRd wr (.slice oa q cap) D) ∧ Hid (Ord f D) ∧ Hid (∀ u, coefN D u % pOf f = coefU (s.take k) u % pOf f) ∧ Hid (On w wr)) (fun _ vi _ => n - (intOf vi).toNat)
  case atStart => exact ⟨0, Nat.zero_le _, rfl, none, 0, 0, [], rfl, Nat.le_refl _, by omega, Nat.le_refl _, Lib.hid (MRd.nil _ _ _), Lib.hid ⟨List.Pairwise.nil, fun m hm => by cases hm⟩, Lib.hid (fun u => by simp [coefN, coefU]), H0⟩
  case round =>
    rename World => wr
    obtain ⟨k, hk, rfl, oa, q, cap, D, rfl, hqc, hcm, hqk, HM, HD, HCO, HO⟩ := hrel
    by_cases hlt : k < n
    · obtain ⟨g, o, a', c', rfl, c0, c1, c2⟩ := HC.out k hlt
      have hlt' : (k : Int) < (n : Int) := by omega
      have c0' := (HO.out.cell (p := ⟨g, o + k * 2, none⟩) (cell_size c0)).trans c0
      have c1' := (HO.out.cell (p := ⟨g, o + k * 2 + 1, none⟩) (cell_size c1)).trans c1
      have hle := HLE.out k
      have hvl := HVL.out k
      have HXV := Lib.hid (c2.on HO.out)
      have HST : Hid (∀ D2, (∀ u, coefN D2 u % pOf f = (coefN D u + if srtV (s.getD k zM).2 = u then addF f (s.getD k zM).1 0 else 0) % pOf f) → ∀ u, coefN D2 u % pOf f = coefU (s.take (k + 1)) u % pOf f) := fun D2 h2 => put_coef HPP.out (by rw [HN.out]; exact hlt) HCO.out h2
      obtain ⟨x, hx⟩ : ∃ x, x = s.getD k zM := ⟨_, rfl⟩
      rw [← hx] at c0' c1' hle hvl HXV HST
      clear c0 c1 c2 hx HCO
      obtain ⟨xc, xv⟩ := x
      simp only at c0' c1' hle hvl HXV HST
      have HORD := Lib.hid (fun (wx : World) (h : On wr wx) => rordered_any xv (.slice a' xv.length c') wx h.tab (HXV.out.on h) hvl)
      have HPUT := Lib.hid (fun (an : Option Addr) (cn : Nat) (wx : World) (h : On wr wx) (hV : VRd wx (.slice an (srtV xv).length cn) (srtV xv)) => rput_any f D (addF f xc 0) (srtV xv) oa q cap an cn wx h.tab HPP.out (HM.out.on h) hqc hcm hV HD.out (addF_lt f xc 0 HPP.out) (by omega))
      generalize xv.length = xl at c1' HORD
      go_wp2
      refine region_head_tail (S := fun wx => On wr wx) 17 (by kernel_rfl) (by kernel_rfl) ?_
      obtain ⟨V0, hV0⟩ : ∃ V0, V0 = wr.drew := ⟨_, rfl⟩
      have hSd : On wr V0 := by rw [hV0]; exact (On.refl HO.out.tab).drew
      rw [← hV0]
      clear hV0
      refine HeadG.take (i := 0) (v := ?hev1z0) rfl (by kernel_rfl) (by kernel_rfl) (by kernel_rfl) (by kernel_rfl) (by kernel_rfl) (by kernel_rfl) (by kernel_rfl) (fun _ _ _ h => h) (Or.inl ⟨by kernel_rfl, ?hey1z0⟩) hSd ?her1z0
      case hey1z0 => (intro w' hSw; skip; go_simp; try with_reducible rfl)
      try simp only [Act.put, List.setIfInBounds_toArray, List.set_cons_zero, List.set_cons_succ, List.getElem_toArray, List.getElem_cons_zero, List.getElem_cons_succ]
      refine HeadG.take (i := 1) (v := ?hev2z1) rfl (by kernel_rfl) (by kernel_rfl) (by kernel_rfl) (by kernel_rfl) (by kernel_rfl) (by kernel_rfl) (by kernel_rfl) (fun _ _ _ h => h) (Or.inl ⟨by kernel_rfl, ?hey2z1⟩) hSd ?her2z1
      case hey2z1 => (intro w' hSw; skip; go_simp; try with_reducible rfl)
      try simp only [Act.put, List.setIfInBounds_toArray, List.set_cons_zero, List.set_cons_succ, List.getElem_toArray, List.getElem_cons_zero, List.getElem_cons_succ]
      refine HeadG.take (i := 2) (v := ?hev3z2) rfl (by kernel_rfl) (by kernel_rfl) (by kernel_rfl) (by kernel_rfl) (by kernel_rfl) (by kernel_rfl) (by kernel_rfl) (fun _ _ _ h => h) (Or.inl ⟨by kernel_rfl, ?hey3z2⟩) hSd ?her3z2
      case hey3z2 => (intro w' hSw; skip; go_simp; try with_reducible rfl)
      try simp only [Act.put, List.setIfInBounds_toArray, List.set_cons_zero, List.set_cons_succ, List.getElem_toArray, List.getElem_cons_zero, List.getElem_cons_succ]
      refine HeadG.take (i := 3) (v := ?hev4z3) rfl (by kernel_rfl) (by kernel_rfl) (by kernel_rfl) (by kernel_rfl) (by kernel_rfl) (by kernel_rfl) (by kernel_rfl) (fun _ _ _ h => h) (Or.inl ⟨by kernel_rfl, ?hey4z3⟩) hSd ?her4z3
      case hey4z3 => (intro w' hSw; skip; go_simp; try with_reducible rfl)
      try simp only [Act.put, List.setIfInBounds_toArray, List.set_cons_zero, List.set_cons_succ, List.getElem_toArray, List.getElem_cons_zero, List.getElem_cons_succ]
      refine HeadG.take (i := 4) (v := ?hev5z4) rfl (by kernel_rfl) (by kernel_rfl) (by kernel_rfl) (by kernel_rfl) (by kernel_rfl) (by kernel_rfl) (by kernel_rfl) (fun _ _ _ h => h) (Or.inl ⟨by kernel_rfl, ?hey5z4⟩) hSd ?her5z4
      case hey5z4 => (intro w' hSw; skip; go_simp; try with_reducible rfl)
      try simp only [Act.put, List.setIfInBounds_toArray, List.set_cons_zero, List.set_cons_succ, List.getElem_toArray, List.getElem_cons_zero, List.getElem_cons_succ]
      refine HeadG.take (i := 5) (v := ?hev6z5) rfl (by kernel_rfl) (by kernel_rfl) (by kernel_rfl) (by kernel_rfl) (by kernel_rfl) (by kernel_rfl) (by kernel_rfl) (fun _ _ _ h => h) (Or.inl ⟨by kernel_rfl, ?hey6z5⟩) hSd ?her6z5
      case hey6z5 => (intro w' hSw; skip; go_simp; try with_reducible rfl)
      try simp only [Act.put, List.setIfInBounds_toArray, List.set_cons_zero, List.set_cons_succ, List.getElem_toArray, List.getElem_cons_zero, List.getElem_cons_succ]
      refine HeadG.take (i := 6) (v := ?hev7z6) rfl (by kernel_rfl) (by kernel_rfl) (by kernel_rfl) (by kernel_rfl) (by kernel_rfl) (by kernel_rfl) (by kernel_rfl) (fun _ _ _ h => h) (Or.inl ⟨by kernel_rfl, ?hey7z6⟩) hSd ?her7z6
      case hey7z6 => (intro w' hSw; skip; go_simp; try with_reducible rfl)
      try simp only [Act.put, List.setIfInBounds_toArray, List.set_cons_zero, List.set_cons_succ, List.getElem_toArray, List.getElem_cons_zero, List.getElem_cons_succ]
      refine HeadG.take (i := 7) (v := ?hev8z7) rfl (by kernel_rfl) (by kernel_rfl) (by kernel_rfl) (by kernel_rfl) (by kernel_rfl) (by kernel_rfl) (by kernel_rfl) (fun _ _ _ h => h) (Or.inl ⟨by kernel_rfl, ?hey8z7⟩) hSd ?her8z7
      case hey8z7 => (intro w' hSw; have k0 := (hSw.cell (p := ⟨g, o + k * 2, none⟩) (cell_size c0')).trans c0'; have k1 := (hSw.cell (p := ⟨g, o + k * 2 + 1, none⟩) (cell_size c1')).trans c1'; go_simp; try with_reducible rfl)
      try simp only [Act.put, List.setIfInBounds_toArray, List.set_cons_zero, List.set_cons_succ, List.getElem_toArray, List.getElem_cons_zero, List.getElem_cons_succ]
      refine HeadG.take (i := 9) (v := ?hev9z9) rfl (by kernel_rfl) (by kernel_rfl) (by kernel_rfl) (by kernel_rfl) (by kernel_rfl) (by kernel_rfl) (by kernel_rfl) (fun _ _ _ h => h) (Or.inl ⟨by kernel_rfl, ?hey9z9⟩) hSd ?her9z9
      case hey9z9 => (intro w' hSw; skip; go_simp; try with_reducible rfl)
      try simp only [Act.put, List.setIfInBounds_toArray, List.set_cons_zero, List.set_cons_succ, List.getElem_toArray, List.getElem_cons_zero, List.getElem_cons_succ]
      refine HeadG.take (i := 10) (v := ?hev10z10) rfl (by kernel_rfl) (by kernel_rfl) (by kernel_rfl) (by kernel_rfl) (by kernel_rfl) (by kernel_rfl) (by kernel_rfl) (fun _ _ _ h => h) (Or.inl ⟨by kernel_rfl, ?hey10z10⟩) hSd ?her10z10
      case hey10z10 => (intro w' hSw; skip; go_simp; try with_reducible rfl)
      try simp only [Act.put, List.setIfInBounds_toArray, List.set_cons_zero, List.set_cons_succ, List.getElem_toArray, List.getElem_cons_zero, List.getElem_cons_succ]
      refine HeadG.take (i := 11) (v := ?hev11z11) rfl (by kernel_rfl) (by kernel_rfl) (by kernel_rfl) (by kernel_rfl) (by kernel_rfl) (by kernel_rfl) (by kernel_rfl) (fun _ _ _ h => h) (Or.inl ⟨by kernel_rfl, ?hey11z11⟩) hSd ?her11z11
      case hey11z11 => (intro w' hSw; skip; go_simp; try with_reducible rfl)
      try simp only [Act.put, List.setIfInBounds_toArray, List.set_cons_zero, List.set_cons_succ, List.getElem_toArray, List.getElem_cons_zero, List.getElem_cons_succ]
      refine HeadG.take (i := 12) (v := ?hev12z12) rfl (by kernel_rfl) (by kernel_rfl) (by kernel_rfl) (by kernel_rfl) (by kernel_rfl) (by kernel_rfl) (by kernel_rfl) (fun _ _ _ h => h) (Or.inl ⟨by kernel_rfl, ?hey12z12⟩) hSd ?her12z12
      case hey12z12 => (intro w' hSw; skip; go_simp; try with_reducible rfl)
      try simp only [Act.put, List.setIfInBounds_toArray, List.set_cons_zero, List.set_cons_succ, List.getElem_toArray, List.getElem_cons_zero, List.getElem_cons_succ]
      refine HeadG.take (i := 13) (v := ?hev13z13) rfl (by kernel_rfl) (by kernel_rfl) (by kernel_rfl) (by kernel_rfl) (by kernel_rfl) (by kernel_rfl) (by kernel_rfl) (fun _ _ _ h => h) (Or.inl ⟨by kernel_rfl, ?hey13z13⟩) hSd ?her13z13
      case hey13z13 => (intro w' hSw; have k0 := (hSw.cell (p := ⟨g, o + k * 2, none⟩) (cell_size c0')).trans c0'; have k1 := (hSw.cell (p := ⟨g, o + k * 2 + 1, none⟩) (cell_size c1')).trans c1'; go_simp; try with_reducible rfl)
      try simp only [Act.put, List.setIfInBounds_toArray, List.set_cons_zero, List.set_cons_succ, List.getElem_toArray, List.getElem_cons_zero, List.getElem_cons_succ]
      refine HeadG.one (i := 8) rfl (by kernel_rfl) (by kernel_rfl) (fun K9 hK9 => ?_)
      go_simp
      go_at_call 20
      with_reducible refine (radd0_any f xc V0 hle).mono ?_
      rintro e wm ⟨rfl, hd⟩
      have hSm := hSd.drawn hd
      clear hd
      refine hK9.out _ _ hSm ?_
      clear hK9 K9
      try simp only [Act.put, List.setIfInBounds_toArray, List.set_cons_zero, List.set_cons_succ, List.getElem_toArray, List.getElem_cons_zero, List.getElem_cons_succ]
      refine HeadG.one (i := 14) rfl (by kernel_rfl) (by kernel_rfl) (fun K9 hK9 => ?_)
      go_simp
      go_at_call 51
      with_reducible refine (HORD.out _ hSm).mono ?_
      rintro e wn ⟨⟨un, rfl, hun⟩, hOn⟩
      obtain ⟨an, cn, rfl⟩ := hun.shape
      have hSn := hSm.trans hOn
      have HUN := Lib.hid hun
      clear hun hOn
      refine hK9.out _ _ hSn ?_
      clear hK9 K9
      try simp only [Act.put, List.setIfInBounds_toArray, List.set_cons_zero, List.set_cons_succ, List.getElem_toArray, List.getElem_cons_zero, List.getElem_cons_succ]
      refine HeadG.one (i := 15) rfl (by kernel_rfl) (by kernel_rfl) (fun K9 hK9 => ?_)
      go_simp
      refine hK9.out _ _ hSn ?_
      clear hK9 K9
      try simp only [Act.put, List.setIfInBounds_toArray, List.set_cons_zero, List.set_cons_succ, List.getElem_toArray, List.getElem_cons_zero, List.getElem_cons_succ]
      refine HeadG.one (i := 16) rfl (by kernel_rfl) (by kernel_rfl) (fun K9 hK9 => ?_)
      go_simp
      go_at_call 50
      with_reducible refine (HPUT.out an cn wn hSn HUN.out).mono ?_
      rintro e wp ⟨⟨oa2, q2, cap2, D2, rfl, h1, h2, h3, h4, h5, h6⟩, hOp⟩
      have hSp := hSn.trans hOp
      have HCF := Lib.hid (HST.out D2 h6)
      have HM2 := Lib.hid h4
      have HD2 := Lib.hid h5
      have HOP := Lib.hid (HO.out.trans hSp)
      clear h4 h5 h6 hOp
      refine hK9.out _ _ hSp ?_
      clear hK9 K9
      try simp only [Act.put, List.setIfInBounds_toArray, List.set_cons_zero, List.set_cons_succ, List.getElem_toArray, List.getElem_cons_zero, List.getElem_cons_succ]
      refine HeadG.last (i := 17) rfl (by kernel_rfl) (by kernel_rfl) (by kernel_rfl) (fun K9 hK9 => ?_)
      go_simp
      refine hK9.out _ _ ?_
      clear hK9 K9
      try simp only [Act.put, List.setIfInBounds_toArray, List.set_cons_zero, List.set_cons_succ, List.getElem_toArray, List.getElem_cons_zero, List.getElem_cons_succ]
      clear hSd hSm hSn hSp
      go_wp2
      go_roundw
      case rel => exact ⟨k + 1, by omega, by simp, _, _, _, D2, rfl, h1, h2, by omega, HM2, HD2, HCF, HOP⟩
      case measure => simp [intOf]; omega
    · obtain rfl : k = n := by omega
      have HCE : Hid (nz D = normS f s) := normS_only f HPP.out s (ord_nf HD.out) (fun u => by rw [coefN_nz, HCO.out u, ← HN.out, List.take_length])
      have HCD := Lib.hid HM.out.cells
      have HLD := Lib.hid HM.out.le
      have hqd := HM.out.len
      have HQD := Lib.hid hqd
      rw [← hqd] at HCD
      have HU9 := Lib.hid HM.out.1
      clear HCO hqd HD
      go_wp2_with fail
      go_loopw [7, 9] (fun vs vi wq => ∃ j : Nat, j ≤ q ∧ vi = .int .i64 (j : Int) ∧ Hid (∃ Z, wq.ownsRow wr.heap.size 44 2 vs (nz (D.take j)).length (mcells Z) ∧ FitR wr Z (nz (D.take j))) ∧ Hid (On wr wq)) (fun _ vi _ => q - (intOf vi).toNat)
      case atStart => exact ⟨0, Nat.zero_le _, rfl, Lib.hid ⟨[], World.ownsRow_nil _ _ _ _, rfl, fun i hi => by simp [nz] at hi⟩, Lib.hid (On.refl HO.out.tab)⟩
      case round =>
        rename World => wq
        obtain ⟨j, hj, rfl, HV, HQ⟩ := hrel
        by_cases hjt : j < q
        · obtain ⟨g, o, a', c', rfl, c0, c1, c2⟩ := HCD.out j hjt
          have hjt' : (j : Int) < (q : Int) := by omega
          have c0' := (HQ.out.cell (p := ⟨g, o + j * 2, none⟩) (cell_size c0)).trans c0
          have c1' := (HQ.out.cell (p := ⟨g, o + j * 2 + 1, none⟩) (cell_size c1)).trans c1
          have HNZ : Hid (nz (D.take (j + 1)) = nz (D.take j) ++ if (D.getD j zM).1 = 0 then [] else [D.getD j zM]) := by unfold Hid; rw [take_snoc_m D zM j (by rw [← HQD.out]; exact hjt), nz_snoc]
          obtain ⟨Z, hown, hF⟩ := HV.out
          have hnl : (nz (D.take j)).length ≤ 200000 := by
            have h1 := nz_len (D.take j)
            rw [List.length_take] at h1; omega
          obtain ⟨x, hx⟩ : ∃ x, x = D.getD j zM := ⟨_, rfl⟩
          rw [← hx] at c0' c1' c2 HNZ
          clear c0 c1 hx
          obtain ⟨xc, xv⟩ := x
          simp only at c0' c1' c2 HNZ
          by_cases hz : xc = 0
          · subst hz
            have HV2 : Hid (∃ Z, wq.ownsRow wr.heap.size 44 2 u7 (nz (D.take (j + 1))).length (mcells Z) ∧ FitR wr Z (nz (D.take (j + 1)))) := by
              unfold Hid; rw [HNZ.out, if_pos rfl, List.append_nil]; exact HV.out
            clear HNZ hown hF hnl HV c2
            go_wp2
            go_roundw
            case rel => exact ⟨j + 1, by omega, by simp, HV2, HQ⟩
            case measure => simp [intOf]; omega
          · have hz0 : ¬ (xc : Int) = 0 := by omega
            have e0 := beq_no hz0
            have oa1 := (On.refl HQ.out.tab).alloc (.cells #[.int .u64 ((xc : Nat) : Int), .slice a' xv.length c'] 44)
            obtain ⟨v2, w2, r2, n2, g2, -⟩ := append_mo (hown.alloc (.cells #[.int .u64 ((xc : Nat) : Int), .slice a' xv.length c'] 44)) (by have := oa1.size; have := HQ.out.size; omega) (zs_new1 wq xc a' xv.length c' _ rfl) (by omega)
            have HQ2 : Hid (On wr w2) := (HQ.out.trans oa1).gbv g2 (fun r hr => ownsRow_below hown r hr)
            have HV2 : Hid (∃ Z, w2.ownsRow wr.heap.size 44 2 v2 (nz (D.take (j + 1))).length (mcells Z) ∧ FitR wr Z (nz (D.take (j + 1)))) := by
              unfold Hid
              rw [HNZ.out, if_neg hz]
              refine ⟨Z ++ [(xc, .slice a' xv.length c')], by rw [mcells_append, List.length_append]; exact n2, hF.append ⟨rfl, fun i hi => ?_⟩⟩
              obtain rfl : i = 0 := by simp at hi; omega
              exact ⟨rfl, c2⟩
            have R2 := Lib.hid r2
            clear HNZ hown hF hnl HV c2 oa1 r2 n2 g2 hz hz0
            generalize xv.length = xl at *
            go_wp2_with (at_builtin; refine wp_appendJ rfl (.tmp 48) (.tmp 53) _ _ rfl _ _ v2 rfl rfl R2.out ?_)
            go_roundw
            case rel => exact ⟨j + 1, by omega, by simp, HV2, HQ2⟩
            case measure => simp [intOf]; omega
        · obtain rfl : j = q := by omega
          obtain ⟨Z, hown, hF⟩ := HV.out
          have HMM : Hid (MRd wq u7 (normS f s)) := by
            unfold Hid
            rw [HQD.out, List.take_length] at hown hF
            rw [← HCE.out]
            refine own_mrd hown (hF.on HQ.out) (fun m hm => HU9.out m (List.mem_filter.1 hm).1) ?_
            have h1 := nz_len D
            have h2 := HQD.out
            omega
          clear hown hF HV
          go_wp2
          go_ret2
          exact ⟨⟨_, rfl, HMM.out⟩, HO.out.trans HQ.out⟩
theorem rnormalF_any (f : Int) (s : List Mo) (v : Value) (w : World) (hT : Tab w) (hR : MRd w v s) (hs : s.length ≤ 100000) (hl : ∀ m ∈ s, m.2.length ≤ 200000) :
    Calls Tryd.prog 34 #[.int .i64 f, v] w fun e w' => (∃ u, e = .returned (.tuple #[u, .int .i64 (nfE f)]) ∧ MRd w' u (nfR f s)) ∧ On w w' := by
  unfold nfE nfR
  cases hv : validB f
  · exact (rnormal_no f v w hT hv).mono fun e w' ⟨h1, h2⟩ => ⟨⟨_, h1, MRd.nil _ _ _⟩, h2⟩
  · exact rnormal_yes f s v w hT hv hR hs hl
end Go.Proofs.YtnmdfldgpbfbbaaDoor

/- The document's Add and Mul. -/
namespace Go.Proofs.YtnmdfldgpbfbbaaDoor
open Go.Shelf Go.RowKit Go.Lib Go.Sort
set_option linter.unusedVariables false

theorem fit_on {W w : World} {Z : List (Nat × Value)} {L : List Mo} (h : FitR W Z L) (k : On W w) : FitR w Z L := h.on k
theorem Fits.fitR {w : World} {Z : List (Nat × Value)} {L : List Mo} (h : Fits w Z L) : FitR w Z L := ⟨h.1, fun i hi => ⟨(h.2 i hi).1, (h.2 i hi).2.1⟩⟩
set_option maxRecDepth 100000 in
set_option maxHeartbeats 1000000 in
theorem radd2_any (f : Int) (a b : List Mo) (va vb : Value) (w : World) (hT : Tab w) (hA : MRd w va a) (hB : MRd w vb b) (ha : a.length ≤ 1000) (hb : b.length ≤ 1000) (hal : ∀ m ∈ a, m.2.length ≤ 100000) (hbl : ∀ m ∈ b, m.2.length ≤ 100000) :
    Calls Tryd.prog 15 #[.int .i64 f, va, vb] w fun e w' => (∃ u, e = .returned (.tuple #[u, .int .i64 (nfE f)]) ∧ MRd w' u (nfR f (a ++ b))) ∧ On w w' := by
  obtain ⟨aa, ca, rfl⟩ := hA.shape
  obtain ⟨ab, cb, rfl⟩ := hB.shape
  obtain ⟨Za, hFa, hSa⟩ := hA.zs
  obtain ⟨Zb, hFb, hSb⟩ := hB.zs
  obtain ⟨v1, w1, r1, n1, g1, -⟩ := append_mo (World.ownsRow_nil w w.heap.size 44 2) (Nat.le_refl _) hSa (by omega)
  have o1 : On w w1 := (On.refl hT).gbv g1 (fun r hr => by simp [Value.ownBlock] at hr)
  obtain ⟨v2, w2, r2, n2, g2, -⟩ := append_mo n1 o1.size (hSb.on o1) (by omega)
  have o2 : On w w2 := o1.gbv g2 (fun r hr => ownsRow_below n1 r hr)
  have n2' : w2.ownsRow w.heap.size 44 2 v2 (0 + a.length + b.length) (mcells (Za ++ Zb)) := by rw [mcells_append]; exact n2
  have hM : MRd w2 v2 (a ++ b) := own_mrd n2' ((hFa.append hFb).on o2) (fun m hm => by
    rcases List.mem_append.1 hm with h | h
    · exact hA.1 m h
    · exact hB.1 m h) (by rw [List.length_append]; omega)
  have HN := Lib.hid (rnormalF_any f (a ++ b) v2 w2 o2.tab hM (by rw [List.length_append]; omega) (fun m hm => by
    rcases List.mem_append.1 hm with h | h
    · have := hal m h; omega
    · have := hbl m h; omega))
  have R1 := Lib.hid r1
  have R2 := Lib.hid r2
  have HO2 := Lib.hid o2
  clear hT hA hB hFa hFb hSa hSb r1 n1 g1 o1 r2 n2 g2 o2 n2' hM hal hbl
  generalize a.length = n at *
  generalize b.length = m at *
  go_enter Tryd.func15, Tryd.ntmps15
  go_wp2_with (first | (at_builtin; first | refine wp_appendJ rfl (.tmp 9) (.tmp 10) _ _ rfl _ _ v1 rfl rfl R1.out ?_ | refine wp_appendJ rfl (.tmp 13) (.tmp 14) _ _ rfl _ _ v2 rfl rfl R2.out ?_) | (go_at_call 34; refine HN.out.mono ?_; rintro e w3 ⟨⟨x, rfl, hM⟩, hO3⟩))
  go_ret2
  exact ⟨⟨_, rfl, hM⟩, HO2.out.trans hO3⟩
/-- A grown list of variables as a header. -/
theorem own_ent {B n : Nat} {w : World} {v : Value} {l : List Vr} (h : w.ownsRow B 47 2 v n (vcells l)) (hU : ∀ x ∈ l, okV x) (hL : l.length ≤ 1000000) : Ent w v l := by
  obtain ⟨oa, cap, he, h1, h2, h3⟩ := own_vrd h hU hL
  refine ⟨h3, fun g o m c e h0 => ?_⟩
  rcases h.2 with ⟨e2, hn⟩ | ⟨g', cap', cur, e2, hb, hg, _⟩
  · rw [e] at e2; simp at e2
  · rw [e] at e2
    simp only [Value.slice.injEq, Option.some.injEq, Addr.mk.injEq] at e2
    obtain ⟨⟨rfl, _⟩, _⟩ := e2
    exact ⟨_, _, hg⟩
/-- The variables of a product: two appends. -/
theorem vars2 {W : World} (hT : Tab W) {a1 a2 : Option Addr} {n1 n2 c1 c2 : Nat} {l1 l2 : List Vr} (h1 : VRd W (.slice a1 n1 c1) l1) (h2 : VRd W (.slice a2 n2 c2) l2) (b1 : n1 ≤ 200000) (b2 : n2 ≤ 200000) :
    ∃ v1 w1 oa cap w2, (∀ ty, (Builtin.append_ #[42, 42] ty #[.slice none 0 0, .slice a1 n1 c1]).run Tryd.prog W = .ok v1 w1) ∧ On W w1 ∧
      (∀ ty, (Builtin.append_ #[42, 42] ty #[v1, .slice a2 n2 c2]).run Tryd.prog w1 = .ok (.slice oa (l1 ++ l2).length cap) w2) ∧ On W w2 ∧ Ent w2 (.slice oa (l1 ++ l2).length cap) (l1 ++ l2) := by
  obtain ⟨v1, w1, r1, m1, g1, -⟩ := append_vr (World.ownsRow_nil W W.heap.size 47 2) (Nat.le_refl _) h1 (by omega)
  have o1 : On W w1 := (On.refl hT).gbv g1 (fun r hr => by simp [Value.ownBlock] at hr)
  obtain ⟨v2, w2, r2, m2, g2, -⟩ := append_vr m1 o1.size (h2.on o1) (by omega)
  have o2 : On W w2 := o1.gbv g2 (fun r hr => ownsRow_below m1 r hr)
  have m2' : w2.ownsRow W.heap.size 47 2 v2 (0 + n1 + n2) (vcells (l1 ++ l2)) := by rw [vcells_append]; exact m2
  have hU : ∀ x ∈ l1 ++ l2, okV x := fun x hx => by
    rcases List.mem_append.1 hx with h | h
    · exact h1.1 x h
    · exact h2.1 x h
  have hL : (l1 ++ l2).length ≤ 1000000 := by
    have e1 := h1.len; have e2 := h2.len
    rw [List.length_append]; omega
  obtain ⟨oa, cap, rfl, _, _, _⟩ := own_vrd m2' hU hL
  exact ⟨v1, w1, oa, cap, w2, r1, o1, r2, o2, own_ent m2' hU hL⟩
/-- One more product behind the list. -/
theorem mul_app {w W : World} (hO : On w W) {L : List Mo} {vs : Value} {Z : List (Nat × Value)} (hn : W.ownsRow w.heap.size 44 2 vs L.length (mcells Z)) (hF : Fits W Z L) (hL : L.length ≤ 1000000) (c : Nat) {oa : Option Addr} {cap m : Nat} {l : List Vr} (hE : Ent W (.slice oa m cap) l) (wm : World) (hX : On W wm) :
    ∃ v5 w5, (∀ ty, (Builtin.append_ #[22, 22] ty #[vs, .slice (some ⟨wm.heap.size, 0, none⟩) 1 1]).run Tryd.prog (wm.alloc (.cells #[.int .u64 ((c : Nat) : Int), .slice oa m cap] 44)) = .ok v5 w5) ∧
      ∃ Z5, w5.ownsRow w.heap.size 44 2 v5 (L ++ [(c, l)]).length (mcells Z5) ∧ Fits w5 Z5 (L ++ [(c, l)]) ∧ On w w5 := by
  have oa1 := (On.refl hX.tab).alloc (.cells #[.int .u64 ((c : Nat) : Int), .slice oa m cap] 44)
  have oX := hX.trans oa1
  have hnA := own_on hn oX
  obtain ⟨v5, w5, r5, n5, g5, -⟩ := append_mo hnA (by have := oX.size; have := hO.size; omega) (zs_new1 wm c oa m cap _ rfl) (by omega)
  have hr : ∀ r, vs.ownBlock = some r → ∀ cur fz, (wm.alloc (.cells #[.int .u64 ((c : Nat) : Int), .slice oa m cap] 44)).heap[r]? ≠ some (.cells cur 47 fz) := fun r hr cur fz e => by
    rcases hnA.2 with ⟨h, -⟩ | ⟨g', cap', cur2, h, hb, hgg, _⟩
    · rw [h] at hr; simp [Value.ownBlock] at hr
    · rw [h] at hr; simp only [Value.ownBlock, Option.some.injEq] at hr; subst hr
      exact tag_ne hgg e (by decide) rfl
  refine ⟨v5, w5, r5, Z ++ [(c, .slice oa m cap)], by rw [mcells_append, List.length_append]; exact n5, ((hF.on oX).gb g5 hr).snoc c _ l ((hE.on oX).gb g5 hr), (hO.trans oX).gbv g5 (fun r h => ownsRow_below hn r h)⟩
set_option maxRecDepth 100000 in
set_option maxHeartbeats 4000000 in
theorem rmul2_any (f : Int) (a b : List Mo) (va vb : Value) (w : World) (hT : Tab w) (hA : MRd w va a) (hB : MRd w vb b) (ha : a.length ≤ 300) (hb : b.length ≤ 300) (hal : ∀ m ∈ a, m.2.length ≤ 100000) (hbl : ∀ m ∈ b, m.2.length ≤ 100000) :
    Calls Tryd.prog 18 #[.int .i64 f, va, vb] w fun e w' => (∃ u, e = .returned (.tuple #[u, .int .i64 (nfE f)]) ∧ MRd w' u (nfR f (prodS f a b))) ∧ On w w' := by
  obtain ⟨aa, ca, rfl⟩ := hA.shape
  obtain ⟨ab, cb, rfl⟩ := hB.shape
  have HCA := Lib.hid hA.cells
  have HCB := Lib.hid hB.cells
  have HLA := Lib.hid hA.le
  have HLB := Lib.hid hB.le
  have gl : ∀ (s : List Mo), (∀ m ∈ s, m.2.length ≤ 100000) → ∀ k, (s.getD k zM).2.length ≤ 100000 := fun s hs k => by
    rcases Nat.lt_or_ge k s.length with h | h
    · rw [List.getD_eq_getElem?_getD, List.getElem?_eq_getElem h]; exact hs _ (List.getElem_mem _)
    · rw [List.getD_eq_getElem?_getD, List.getElem?_eq_none h]; simp
  have HVA := Lib.hid (gl a hal)
  have HVB := Lib.hid (gl b hbl)
  have HU : Hid (∀ m ∈ prodS f a b, m.1 ≤ 18446744073709551615 ∧ m.2.length ≤ 200000) := fun m hm => by
    obtain ⟨x, hx, y, hy, rfl⟩ := mem_prodS.1 hm
    have h1 := hal x hx
    have h2 := hbl y hy
    have h3 := mulF_le f x.1 y.1
    exact ⟨by simp only; omega, by simp only [List.length_append]; omega⟩
  have HPLEN : Hid ((prodS f a b).length ≤ 90000) := by
    unfold Hid; rw [prodS_len]
    exact Nat.le_trans (Nat.mul_le_mul ha hb) (by decide)
  have H0 := Lib.hid (On.refl hT)
  obtain ⟨n, hn⟩ : ∃ n, a.length = n := ⟨_, rfl⟩
  obtain ⟨p, hpn⟩ : ∃ p, b.length = p := ⟨_, rfl⟩
  have HN := Lib.hid hn
  have HPN := Lib.hid hpn
  rw [hn] at HCA ha ⊢
  rw [hpn] at HCB hb ⊢
  clear hT hA hB hal hbl gl hn hpn
  go_enter Tryd.func18, Tryd.ntmps18
  go_wp2_with fail
  go_loopw [8, 9] (fun vs vi wr => ∃ k : Nat, k ≤ n ∧ vi = .int .i64 (k : Int) ∧ Hid (∃ Z, wr.ownsRow w.heap.size 44 2 vs (prodS f (a.take k) b).length (mcells Z) ∧ Fits wr Z (prodS f (a.take k) b)) ∧ Hid (On w wr)) (fun _ vi _ => n - (intOf vi).toNat)
  case atStart => exact ⟨0, Nat.zero_le _, rfl, Lib.hid ⟨[], World.ownsRow_nil _ _ _ _, rfl, fun i hi => by simp [prodS] at hi⟩, H0⟩
  case round =>
    rename World => wr
    obtain ⟨k, hk, rfl, HV, HO⟩ := hrel
    by_cases hlt : k < n
    · obtain ⟨g, o, a', c', rfl, c0, c1, c2⟩ := HCA.out k hlt
      have hlt' : (k : Int) < (n : Int) := by omega
      have hle := HLA.out k
      have hvl := HVA.out k
      have HXV := Lib.hid c2
      have HPS := Lib.hid (prodS_snoc f a b k (by rw [HN.out]; exact hlt))
      have HRS := Lib.hid (fun j h => rowS_snoc f (a.getD k zM) b j h)
      obtain ⟨x, hx⟩ : ∃ x, x = a.getD k zM := ⟨_, rfl⟩
      have hPL : (prodS f (a.take k) b).length ≤ 90000 := by
        rw [prodS_len, List.length_take, HN.out, HPN.out]
        exact Nat.le_trans (Nat.mul_le_mul (show min k n ≤ 300 by omega) hb) (by decide)
      rw [← hx] at c0 c1 HXV hle hvl HPS HRS
      clear c2 hx
      obtain ⟨xc, xv⟩ := x
      simp only at c0 c1 HXV hle hvl
      obtain ⟨P0, hP0⟩ : ∃ P0, P0 = prodS f (a.take k) b := ⟨_, rfl⟩
      rw [← hP0] at HV HPS hPL
      have HPL := Lib.hid hPL
      clear hP0 hPL
      have HV1 : Hid (∃ Z, wr.ownsRow w.heap.size 44 2 u8 (P0 ++ rowS f (xc, xv) (b.take 0)).length (mcells Z) ∧ Fits wr Z (P0 ++ rowS f (xc, xv) (b.take 0))) := by
        unfold Hid; rw [List.take_zero, show rowS f (xc, xv) [] = [] from rfl, List.append_nil]; exact HV.out
      clear HV
      obtain ⟨xl, hxl⟩ : ∃ xl, xv.length = xl := ⟨_, rfl⟩
      rw [hxl] at c1 HXV hvl
      clear hxl
      go_upto_region 5 with fail
      go_wp2_with fail
      go_loopw [8, 10] (fun vs vj wq => ∃ j : Nat, j ≤ p ∧ vj = .int .i64 (j : Int) ∧ Hid (∃ Z, wq.ownsRow w.heap.size 44 2 vs (P0 ++ rowS f (xc, xv) (b.take j)).length (mcells Z) ∧ Fits wq Z (P0 ++ rowS f (xc, xv) (b.take j))) ∧ Hid (On w wq)) (fun _ vj _ => p - (intOf vj).toNat)
      case atStart => exact ⟨0, Nat.zero_le _, rfl, HV1, HO⟩
      case round =>
        rename World => wq
        obtain ⟨j, hj, rfl, HV, HQ⟩ := hrel
        by_cases hjt : j < p
        · obtain ⟨g2, o2, a2, c2, rfl, d0, d1, d2⟩ := HCB.out j hjt
          have hjt' : (j : Int) < (p : Int) := by omega
          have hle2 := HLB.out j
          have hvl2 := HVB.out j
          have HYV := Lib.hid d2
          have HRJ := Lib.hid (HRS.out j (by rw [HPN.out]; exact hjt))
          obtain ⟨y, hy⟩ : ∃ y, y = b.getD j zM := ⟨_, rfl⟩
          rw [← hy] at d0 d1 HYV hle2 hvl2 HRJ
          clear d2 hy
          obtain ⟨yc, yv⟩ := y
          simp only at d0 d1 HYV hle2 hvl2 HRJ
          obtain ⟨yl, hyl⟩ : ∃ yl, yv.length = yl := ⟨_, rfl⟩
          rw [hyl] at d1 HYV hvl2
          clear hyl
          have c1' := (HQ.out.cell (p := ⟨g, o + k * 2 + 1, none⟩) (cell_size c1)).trans c1
          obtain ⟨v3, w3, oav, cav, w4, r3, o3, r4, o4, hen⟩ := vars2 HQ.out.tab (HXV.out.on HQ.out) (HYV.out.on HQ.out) (by omega) (by omega)
          have HO4 := Lib.hid (HQ.out.trans o4)
          have d1' := ((HQ.out.trans o3).cell (p := ⟨g2, o2 + j * 2 + 1, none⟩) (cell_size d1)).trans d1
          have HAPP : Hid (∀ wm, On w4 wm → ∃ v5 w5, (∀ ty, (Builtin.append_ #[22, 22] ty #[u8, .slice (some ⟨wm.heap.size, 0, none⟩) 1 1]).run Tryd.prog (wm.alloc (.cells #[.int .u64 ((mulF f xc yc : Nat) : Int), .slice oav (xv ++ yv).length cav] 44)) = .ok v5 w5) ∧
              ∃ Z5, w5.ownsRow w.heap.size 44 2 v5 (P0 ++ rowS f (xc, xv) (b.take (j + 1))).length (mcells Z5) ∧ Fits w5 Z5 (P0 ++ rowS f (xc, xv) (b.take (j + 1))) ∧ On w w5) := fun wm hX => by
            obtain ⟨Z, hown, hF⟩ := HV.out
            have h := mul_app HO4.out (own_on hown o4) (hF.on o4) (by have h1 := HPL.out; rw [List.length_append, rowS_len, List.length_take]; omega) (mulF f xc yc) hen wm hX
            rw [HRJ.out, ← List.append_assoc]
            exact h
          have R3 := Lib.hid r3
          have R4 := Lib.hid r4
          clear HV r3 r4 o3 o4 hen
          generalize (xv ++ yv).length = ll at R4 HAPP
          go_wp2_with (at_builtin; first | refine wp_appendJ rfl (.tmp 24) (.tmp 29) _ _ rfl _ _ v3 rfl rfl R3.out ?_ | refine wp_appendJ rfl (.tmp 31) (.tmp 36) _ _ rfl _ _ _ rfl rfl R4.out ?_)
          clear c1' d1' R3 R4
          refine region_head_tail (S := fun wx => On w wx) 17 (by kernel_rfl) (by kernel_rfl) ?_
          obtain ⟨V0, hV0⟩ : ∃ V0, V0 = w4.drew := ⟨_, rfl⟩
          have hSd : On w V0 := by rw [hV0]; exact HO4.out.drew
          have hCd : On w4 V0 := by rw [hV0]; exact (On.refl HO4.out.tab).drew
          rw [← hV0]
          clear hV0
          refine HeadG.take (i := 0) (v := ?hev1z0) rfl (by kernel_rfl) (by kernel_rfl) (by kernel_rfl) (by kernel_rfl) (by kernel_rfl) (by kernel_rfl) (by kernel_rfl) (fun _ _ _ h => h) (Or.inl ⟨by kernel_rfl, ?hey1z0⟩) hSd ?her1z0
          case hey1z0 => (intro w' hSw; skip; go_simp; try with_reducible rfl)
          try simp only [Act.put, List.setIfInBounds_toArray, List.set_cons_zero, List.set_cons_succ, List.getElem_toArray, List.getElem_cons_zero, List.getElem_cons_succ]
          refine HeadG.take (i := 1) (v := ?hev2z1) rfl (by kernel_rfl) (by kernel_rfl) (by kernel_rfl) (by kernel_rfl) (by kernel_rfl) (by kernel_rfl) (by kernel_rfl) (fun _ _ _ h => h) (Or.inl ⟨by kernel_rfl, ?hey2z1⟩) hSd ?her2z1
          case hey2z1 => (intro w' hSw; skip; go_simp; try with_reducible rfl)
          try simp only [Act.put, List.setIfInBounds_toArray, List.set_cons_zero, List.set_cons_succ, List.getElem_toArray, List.getElem_cons_zero, List.getElem_cons_succ]
          refine HeadG.take (i := 2) (v := ?hev3z2) rfl (by kernel_rfl) (by kernel_rfl) (by kernel_rfl) (by kernel_rfl) (by kernel_rfl) (by kernel_rfl) (by kernel_rfl) (fun _ _ _ h => h) (Or.inl ⟨by kernel_rfl, ?hey3z2⟩) hSd ?her3z2
          case hey3z2 => (intro w' hSw; skip; go_simp; try with_reducible rfl)
          try simp only [Act.put, List.setIfInBounds_toArray, List.set_cons_zero, List.set_cons_succ, List.getElem_toArray, List.getElem_cons_zero, List.getElem_cons_succ]
          refine HeadG.take (i := 3) (v := ?hev4z3) rfl (by kernel_rfl) (by kernel_rfl) (by kernel_rfl) (by kernel_rfl) (by kernel_rfl) (by kernel_rfl) (by kernel_rfl) (fun _ _ _ h => h) (Or.inl ⟨by kernel_rfl, ?hey4z3⟩) hSd ?her4z3
          case hey4z3 => (intro w' hSw; skip; go_simp; try with_reducible rfl)
          try simp only [Act.put, List.setIfInBounds_toArray, List.set_cons_zero, List.set_cons_succ, List.getElem_toArray, List.getElem_cons_zero, List.getElem_cons_succ]
          refine HeadG.take (i := 4) (v := ?hev5z4) rfl (by kernel_rfl) (by kernel_rfl) (by kernel_rfl) (by kernel_rfl) (by kernel_rfl) (by kernel_rfl) (by kernel_rfl) (fun _ _ _ h => h) (Or.inl ⟨by kernel_rfl, ?hey5z4⟩) hSd ?her5z4
          case hey5z4 => (intro w' hSw; skip; go_simp; try with_reducible rfl)
          try simp only [Act.put, List.setIfInBounds_toArray, List.set_cons_zero, List.set_cons_succ, List.getElem_toArray, List.getElem_cons_zero, List.getElem_cons_succ]
          refine HeadG.take (i := 5) (v := ?hev6z5) rfl (by kernel_rfl) (by kernel_rfl) (by kernel_rfl) (by kernel_rfl) (by kernel_rfl) (by kernel_rfl) (by kernel_rfl) (fun _ _ _ h => h) (Or.inl ⟨by kernel_rfl, ?hey6z5⟩) hSd ?her6z5
          case hey6z5 => (intro w' hSw; skip; go_simp; try with_reducible rfl)
          try simp only [Act.put, List.setIfInBounds_toArray, List.set_cons_zero, List.set_cons_succ, List.getElem_toArray, List.getElem_cons_zero, List.getElem_cons_succ]
          refine HeadG.take (i := 6) (v := ?hev7z6) rfl (by kernel_rfl) (by kernel_rfl) (by kernel_rfl) (by kernel_rfl) (by kernel_rfl) (by kernel_rfl) (by kernel_rfl) (fun _ _ _ h => h) (Or.inl ⟨by kernel_rfl, ?hey7z6⟩) hSd ?her7z6
          case hey7z6 => (intro w' hSw; have k0 := (hSw.cell (p := ⟨g, o + k * 2, none⟩) (cell_size c0)).trans c0; have k1 := (hSw.cell (p := ⟨g2, o2 + j * 2, none⟩) (cell_size d0)).trans d0; go_simp; try with_reducible rfl)
          try simp only [Act.put, List.setIfInBounds_toArray, List.set_cons_zero, List.set_cons_succ, List.getElem_toArray, List.getElem_cons_zero, List.getElem_cons_succ]
          refine HeadG.take (i := 7) (v := ?hev8z7) rfl (by kernel_rfl) (by kernel_rfl) (by kernel_rfl) (by kernel_rfl) (by kernel_rfl) (by kernel_rfl) (by kernel_rfl) (fun _ _ _ h => h) (Or.inl ⟨by kernel_rfl, ?hey8z7⟩) hSd ?her8z7
          case hey8z7 => (intro w' hSw; skip; go_simp; try with_reducible rfl)
          try simp only [Act.put, List.setIfInBounds_toArray, List.set_cons_zero, List.set_cons_succ, List.getElem_toArray, List.getElem_cons_zero, List.getElem_cons_succ]
          refine HeadG.take (i := 8) (v := ?hev9z8) rfl (by kernel_rfl) (by kernel_rfl) (by kernel_rfl) (by kernel_rfl) (by kernel_rfl) (by kernel_rfl) (by kernel_rfl) (fun _ _ _ h => h) (Or.inl ⟨by kernel_rfl, ?hey9z8⟩) hSd ?her9z8
          case hey9z8 => (intro w' hSw; skip; go_simp; try with_reducible rfl)
          try simp only [Act.put, List.setIfInBounds_toArray, List.set_cons_zero, List.set_cons_succ, List.getElem_toArray, List.getElem_cons_zero, List.getElem_cons_succ]
          refine HeadG.take (i := 9) (v := ?hev10z9) rfl (by kernel_rfl) (by kernel_rfl) (by kernel_rfl) (by kernel_rfl) (by kernel_rfl) (by kernel_rfl) (by kernel_rfl) (fun _ _ _ h => h) (Or.inl ⟨by kernel_rfl, ?hey10z9⟩) hSd ?her10z9
          case hey10z9 => (intro w' hSw; skip; go_simp; try with_reducible rfl)
          try simp only [Act.put, List.setIfInBounds_toArray, List.set_cons_zero, List.set_cons_succ, List.getElem_toArray, List.getElem_cons_zero, List.getElem_cons_succ]
          refine HeadG.take (i := 10) (v := ?hev11z10) rfl (by kernel_rfl) (by kernel_rfl) (by kernel_rfl) (by kernel_rfl) (by kernel_rfl) (by kernel_rfl) (by kernel_rfl) (fun _ _ _ h => h) (Or.inl ⟨by kernel_rfl, ?hey11z10⟩) hSd ?her11z10
          case hey11z10 => (intro w' hSw; skip; go_simp; try with_reducible rfl)
          try simp only [Act.put, List.setIfInBounds_toArray, List.set_cons_zero, List.set_cons_succ, List.getElem_toArray, List.getElem_cons_zero, List.getElem_cons_succ]
          refine HeadG.take (i := 11) (v := ?hev12z11) rfl (by kernel_rfl) (by kernel_rfl) (by kernel_rfl) (by kernel_rfl) (by kernel_rfl) (by kernel_rfl) (by kernel_rfl) (fun _ _ _ h => h) (Or.inl ⟨by kernel_rfl, ?hey12z11⟩) hSd ?her12z11
          case hey12z11 => (intro w' hSw; have k0 := (hSw.cell (p := ⟨g, o + k * 2, none⟩) (cell_size c0)).trans c0; have k1 := (hSw.cell (p := ⟨g2, o2 + j * 2, none⟩) (cell_size d0)).trans d0; go_simp; try with_reducible rfl)
          try simp only [Act.put, List.setIfInBounds_toArray, List.set_cons_zero, List.set_cons_succ, List.getElem_toArray, List.getElem_cons_zero, List.getElem_cons_succ]
          refine HeadG.take (i := 13) (v := ?hev13z13) rfl (by kernel_rfl) (by kernel_rfl) (by kernel_rfl) (by kernel_rfl) (by kernel_rfl) (by kernel_rfl) (by kernel_rfl) (fun _ _ _ h => h) (Or.inl ⟨by kernel_rfl, ?hey13z13⟩) hSd ?her13z13
          case hey13z13 => (intro w' hSw; skip; go_simp; try with_reducible rfl)
          try simp only [Act.put, List.setIfInBounds_toArray, List.set_cons_zero, List.set_cons_succ, List.getElem_toArray, List.getElem_cons_zero, List.getElem_cons_succ]
          refine HeadG.one (i := 12) rfl (by kernel_rfl) (by kernel_rfl) (fun K9 hK9 => ?_)
          go_simp
          go_at_call 21
          with_reducible refine (rmul_any f xc yc V0 hle hle2).mono ?_
          rintro e wm ⟨rfl, hd⟩
          have hSm := hSd.drawn hd
          have hCm := hCd.drawn hd
          clear hd
          refine hK9.out _ _ hSm ?_
          clear hK9 K9
          try simp only [Act.put, List.setIfInBounds_toArray, List.set_cons_zero, List.set_cons_succ, List.getElem_toArray, List.getElem_cons_zero, List.getElem_cons_succ]
          refine HeadG.one (i := 14) rfl (by kernel_rfl) (by kernel_rfl) (fun K9 hK9 => ?_)
          go_simp
          refine hK9.out _ _ hSm ?_
          clear hK9 K9
          try simp only [Act.put, List.setIfInBounds_toArray, List.set_cons_zero, List.set_cons_succ, List.getElem_toArray, List.getElem_cons_zero, List.getElem_cons_succ]
          obtain ⟨v5, w5, hr5, Z5, hn5, hF5, hO5⟩ := HAPP.out wm hCm
          have R5 := Lib.hid hr5
          have HV5 : Hid (∃ Z, w5.ownsRow w.heap.size 44 2 v5 (P0 ++ rowS f (xc, xv) (b.take (j + 1))).length (mcells Z) ∧ Fits w5 Z (P0 ++ rowS f (xc, xv) (b.take (j + 1)))) := ⟨Z5, hn5, hF5⟩
          have HO5 := Lib.hid hO5
          clear hr5 hn5 hF5 hO5
          refine HeadG.one (i := 15) rfl (by kernel_rfl) (by kernel_rfl) (fun K9 hK9 => ?_)
          go_simp
          refine hK9.out _ _ (hSm.alloc _) ?_
          clear hK9 K9
          try simp only [Act.put, List.setIfInBounds_toArray, List.set_cons_zero, List.set_cons_succ, List.getElem_toArray, List.getElem_cons_zero, List.getElem_cons_succ]
          refine HeadG.one (i := 16) rfl (by kernel_rfl) (by kernel_rfl) (fun K9 hK9 => ?_)
          refine step_appendJ rfl (.tmp 38) (.tmp 53) _ _ rfl _ _ _ rfl rfl R5.out ?_
          refine hK9.out _ _ HO5.out ?_
          clear hK9 K9
          try simp only [Act.put, List.setIfInBounds_toArray, List.set_cons_zero, List.set_cons_succ, List.getElem_toArray, List.getElem_cons_zero, List.getElem_cons_succ]
          refine HeadG.last (i := 17) rfl (by kernel_rfl) (by kernel_rfl) (by kernel_rfl) (fun K9 hK9 => ?_)
          go_simp
          refine hK9.out _ _ ?_
          clear hK9 K9
          try simp only [Act.put, List.setIfInBounds_toArray, List.set_cons_zero, List.set_cons_succ, List.getElem_toArray, List.getElem_cons_zero, List.getElem_cons_succ]
          clear hSd hCd hSm hCm
          go_wp2
          go_roundw
          case rel => exact ⟨j + 1, by omega, by simp, HV5, HO5⟩
          case measure => simp [intOf]; omega
        · obtain rfl : j = p := by omega
          have HV2 : Hid (∃ Z, wq.ownsRow w.heap.size 44 2 u8 (prodS f (a.take (k + 1)) b).length (mcells Z) ∧ Fits wq Z (prodS f (a.take (k + 1)) b)) := by
            have h := HV.out
            rw [← HPN.out, List.take_length, ← HPS.out] at h
            exact h
          clear HV HV1
          go_wp2
          go_roundw
          case rel => exact ⟨k + 1, by omega, by simp, HV2, HQ⟩
          case measure => simp [intOf]; omega
    · obtain rfl : k = n := by omega
      have hM : MRd wr u8 (prodS f a b) := by
        obtain ⟨Z, hown, hF⟩ := HV.out
        rw [← HN.out, List.take_length] at hown hF
        exact own_mrd hown hF.fitR (fun m hm => (HU.out m hm).1) (by have := HPLEN.out; omega)
      have HNO := Lib.hid (rnormalF_any f (prodS f a b) u8 wr HO.out.tab hM (by have := HPLEN.out; omega) (fun m hm => (HU.out m hm).2))
      clear HV hM
      go_wp2_with (go_at_call 34; refine HNO.out.mono ?_; rintro e w6 ⟨⟨u, rfl, hM⟩, hO6⟩)
      go_ret2
      exact ⟨⟨_, rfl, hM⟩, HO.out.trans hO6⟩
end Go.Proofs.YtnmdfldgpbfbbaaDoor
