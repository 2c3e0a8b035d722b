/- SystemPerms: the walk. -/
import Derived.Test.YtbgljelpldnldaaDoorKp05
import Derived.BigRegion
set_option linter.unusedSimpArgs false
set_option linter.unusedVariables false
/- SystemPerms: the walk. -/
namespace Go.Proofs.YtbgljelpldnldaaDoor
open Go.RowKit Go.Lib
set_option linter.unusedVariables false

/-- A slice of bytes, as it comes in. -/
def AbZ (w : World) (v : Value) (m : Nat) : Prop := ∃ oa cap, v = .slice oa m cap ∧ m ≤ 9223372036854775807 ∧ ∀ k, k < m → ∃ (b off c : Nat), oa = some ⟨b, off, none⟩ ∧ c < 256 ∧ w.cell? ⟨b, off + k, none⟩ = some (.int .u8 (c : Int))
theorem AbZ.on {w w' : World} {v : Value} {m : Nat} (h : AbZ w v m) (k : On w w') : AbZ w' v m := by
  obtain ⟨oa, cap, h1, h2, h3⟩ := h
  refine ⟨oa, cap, h1, h2, fun j hj => ?_⟩
  obtain ⟨b, off, c, e1, e2, e3⟩ := h3 j hj
  exact ⟨b, off, c, e1, e2, cell_on k e3⟩
/-- A grown row is a block of its own. -/
theorem own_blk {w : World} {B n : Nat} {v : Value} {l : List Nat} (h : w.ownsRow B 53 1 v n (u64s l)) (hn : 0 < n) : ∃ g cap, v = .slice (some ⟨g, 0, none⟩) l.length cap ∧ B ≤ g ∧ Blk g w l := by
  have hl : l.length = n := by have := h.1; simpa using this
  rcases h.2 with ⟨_, h0⟩ | ⟨g, cap, cur, e, hB, hb, hc, hm, hs, hx⟩
  · omega
  · refine ⟨g, cap, by rw [hl]; exact e, hB, ?_, fun i hi => ?_, fun i => ?_⟩
    · rcases Nat.lt_or_ge g w.heap.size with h | h
      · exact h
      · rw [Array.getElem?_eq_none h] at hb; cases hb
    · have h1 := h.cells (g := g) (by rw [e]; rfl) i (.int .u64 ((l.getD i 0 : Nat) : Int)) (by
        rw [List.getElem?_map, List.getElem?_eq_getElem hi]; simp [List.getD_eq_getElem?_getD, List.getElem?_eq_getElem hi])
      have e1 : (⟨g, 0, none⟩ : Addr).add i = ⟨g, i, none⟩ := by unfold Addr.add; split <;> simp_all
      rw [e1] at h1; exact h1
    · simp [World.frozen?, hb]

set_option maxHeartbeats 4000000 in
set_option maxRecDepth 100000 in
theorem sperms_any (r at9 c : Nat) (hr : r ≤ 255) (hat : at9 ≤ 255) (hc : c ≤ 18446744073709551615) (L : List Nat) (va vo : Value) (m : Nat) (w : World) (hT : Tab w) (hPw : Pwz w) (hL : Reads w va L) (hO : AbZ w vo m) :
    Calls Tryd.prog 7 #[.int .u8 (r : Int), va, vo, .int .u8 (at9 : Int), .int .u64 (c : Int)] w fun e w' => e = .returned (.bool true) ∧ On w w' := by
  obtain ⟨la, lc, rfl⟩ := hL.shape
  obtain ⟨oa, oc, rfl, hom, hoc⟩ := hO
  obtain ⟨k, hk⟩ : ∃ k, k = 1 + r % 4 := ⟨_, rfl⟩
  have hk1 : 1 ≤ k := by omega
  have hk4 : k ≤ 4 := by omega
  obtain ⟨n, hn⟩ : ∃ n, n = 2 ^ k := ⟨_, rfl⟩
  have hn16 : 2 ≤ n ∧ n ≤ 16 := by
    rcases (show k = 1 ∨ k = 2 ∨ k = 3 ∨ k = 4 by omega) with rfl | rfl | rfl | rfl <;> omega
  have hkr : 1 + (r : Int) % 4 = (k : Int) := by omega
  have hsh : wrap64 ((2 : Int) ^ (1 + r % 4)) = (n : Int) := by rw [← hk]; exact shl_rows k n (by omega) hn
  have HL : Hid (∀ i, i < L.length → ∃ b off, la = some ⟨b, off, none⟩ ∧ w.cell? ⟨b, off + i, none⟩ = some (.int .u64 ((L.getD i 0 : Nat) : Int)) ∧ L.getD i 0 ≤ 18446744073709551615) := fun i hi => by
    rcases hL.2.2 with ⟨e0, _⟩ | ⟨b, off, cap, e, hcc⟩
    · rw [e0] at hi; simp at hi
    · simp only [Value.slice.injEq] at e
      exact ⟨b, off, e.1, hcc i hi, hL.1 _ (getD_mem _ i hi)⟩
  have HOC : Hid (∀ i, i < m → ∃ (b off c : Nat), oa = some ⟨b, off, none⟩ ∧ c < 256 ∧ w.cell? ⟨b, off + i, none⟩ = some (.int .u8 (c : Int))) := hoc
  have H0 := Lib.hid (On.refl hT)
  have HPW := Lib.hid hPw
  have hLm : L.length ≤ 9223372036854775807 := hL.2.1
  have HN := Lib.hid hn; have HKR := Lib.hid hkr; have HSH := Lib.hid hsh; have HK := Lib.hid hk
  obtain ⟨mL, hmL⟩ : ∃ mL, mL = L.length := ⟨_, rfl⟩
  have HML := Lib.hid hmL
  rw [← hmL] at HL hLm ⊢
  clear hoc hL hPw hT hmL hkr hsh hk hn
  go_enter Tryd.func7, Tryd.ntmps7
  go_upto_region 4 with fail
  rw [HSH.out, HKR.out]
  clear HKR HSH
  go_wp2_with fail
  have HUA : Hid (∀ i, u64s (aS L (i + 1)) = u64s (aS L i) ++ [.int .u64 ((aV L i : Nat) : Int)]) := fun i => by rw [aS_succ]; simp [u64s]
  go_loopw [13, 15] (fun va vi wr => ∃ i : Nat, i ≤ n ∧ vi = .int .i64 (i : Int) ∧ Hid (wr.ownsRow w.heap.size 53 1 va i (u64s (aS L i))) ∧ Hid (On w wr)) (fun _ vi _ => n - (RowKit.intOf vi).toNat)
  case atStart => exact ⟨0, Nat.zero_le _, rfl, Lib.hid (World.ownsRow_nil _ _ _ _), H0⟩
  case round =>
    rename World => wr
    obtain ⟨i, hi, rfl, HV, HO⟩ := hrel
    by_cases hlt : i < n
    · have hlt' : (i : Int) < (n : Int) := by omega
      obtain ⟨v', w', hrun, hown', hOn⟩ := app_u64 HV.out HO.out.size ((aV L i : Nat) : Int) (by omega)
      rw [← HUA.out i] at hown'
      have HV2 := Lib.hid hown'
      have HO2 := Lib.hid (hOn w HO.out (Nat.le_refl _))
      by_cases hin : i < mL
      · have hin' : (i : Int) < (mL : Int) := by omega
        obtain ⟨b, off, rfl, d0, d1⟩ := HL.out i hin
        have c0 := cell_on HO.out d0
        have hv : aV L i = L.getD i 0 % 97 := by unfold aV; rw [if_pos (by rw [← HML.out]; exact hin)]
        rw [hv, Int.natCast_emod] at hrun
        have HRUN := Lib.hid hrun
        clear d0 hown' hOn hrun hv
        generalize L.getD i 0 = x at *
        go_wp2_with (at_builtin; refine wp_appendJ rfl (.tmp 46) (.tmp 48) _ _ rfl _ _ v' rfl rfl HRUN.out ?_)
        go_roundw
        case rel => exact ⟨i + 1, by omega, by simp, HV2, HO2⟩
        case measure => simp [RowKit.intOf]; omega
      · have hin' : ¬ (i : Int) < (mL : Int) := by omega
        have hv : aV L i = i := by unfold aV; rw [if_neg (by rw [← HML.out]; exact hin)]
        rw [hv] at hrun
        have HRUN := Lib.hid hrun
        clear hown' hOn hrun hv
        go_wp2_with (at_builtin; refine wp_appendJ rfl (.tmp 46) (.tmp 48) _ _ rfl _ _ v' rfl rfl HRUN.out ?_)
        go_roundw
        case rel => exact ⟨i + 1, by omega, by simp, HV2, HO2⟩
        case measure => simp [RowKit.intOf]; omega
    · obtain rfl : n = i := by omega
      have hA16 := aS_len L n
      have hAlt := aS_lt L n (by omega)
      obtain ⟨ga, ca, e13, hga, hBa⟩ := own_blk HV.out (by omega)
      rw [hA16] at e13
      subst e13
      generalize aS L n = A at *
      obtain ⟨i0, hi0, hz0, hz1, hz2⟩ := info_parts info_u64z
      obtain ⟨v', w1, hrun, hown', hg, hloc⟩ := append_cells (P := Tryd.prog) wr wr.heap.size 32 53 i0 (.int .u64 0) 1 8 Tryd.underlying32 hi0 hz0 hz1 hz2 rfl (by omega) (.slice none 0 0) 0 [] (World.ownsRow_nil _ _ _ _) (some ⟨ga, 0, none⟩) n ca (u64s A) (by simp [hA16]) (fun _ => ⟨_, rfl, fun j u hj => by
        have hjl : j < A.length := by have := (List.getElem?_eq_some_iff.1 hj).1; simpa using this
        rw [List.getElem?_map, List.getElem?_eq_getElem hjl] at hj
        simp only [Option.map_some, Option.some.injEq] at hj
        have h1 := hBa.cell j hjl
        rw [List.getD_eq_getElem?_getD, List.getElem?_eq_getElem hjl] at h1
        have e1 : (⟨ga, 0, none⟩ : Addr).add j = ⟨ga, j, none⟩ := by unfold Addr.add; split <;> simp_all
        rw [e1, ← hj]; exact h1⟩)
        (by intro u hu; obtain ⟨x, _, rfl⟩ := List.mem_map.1 hu; rfl) (by unfold maxLen; omega) (by omega) (Nat.le_refl _)
      rw [Nat.zero_add, List.nil_append] at hown'
      obtain ⟨g, cg, eg, hgg, hBg⟩ := own_blk hown' (by omega)
      rw [hA16] at eg
      subst eg
      have hO1 : On wr w1 := (On.refl HO.out.tab).gbv hg (fun r hr => by cases hr)
      have hBa1 := hBa.on hO1
      have hlt9 : ga < g := by have := hBa.1; omega
      have HRUN := Lib.hid hrun
      have HBA := Lib.hid hBa1
      have HBG : Hid (Blk g w1 A) := hBg
      have HO1 : Hid (On w w1) := HO.out.trans hO1
      have HG9 : Hid (w.heap.size ≤ g) := by have := HO.out.size; exact Nat.le_trans this hgg
      clear HV hBa hBa1 hBg hown' hg hloc hrun hi0 hz0 hz1 hz2 hga hgg hO1 HUA HL H0 hlt hi
      go_wp2_with (at_builtin; refine wp_appendJ rfl (.tmp 50) (.tmp 51) _ _ rfl _ _ (.slice (some ⟨g, 0, none⟩) n cg) rfl rfl HRUN.out ?_)
      have HAP0 := Lib.hid (Ap.refl g w1)
      have HP0 : Hid (A.Perm A ∧ A.length = n) := ⟨List.Perm.refl _, hA16⟩
      have HALT := Lib.hid hAlt; have HAL := Lib.hid hA16; have HLT9 := Lib.hid hlt9
      clear hAlt hA16 hlt9
      go_loopw [17] (fun vi wr => ∃ (i : Nat) (o : List Nat), i ≤ m ∧ i ≤ n ∧ vi = .int .i64 (i : Int) ∧ Hid (o.Perm A ∧ o.length = n) ∧ Hid (Blk g wr o) ∧ Hid (Ap g w1 wr)) (fun vi _ => n - (RowKit.intOf vi).toNat)
      case atStart => exact ⟨0, A, Nat.zero_le _, Nat.zero_le _, rfl, HP0, HBG, HAP0⟩
      case round =>
        rename World => w2
        obtain ⟨i, o, him, hin, rfl, HPM, HB, HAP⟩ := hrel
        by_cases hgo : i < m ∧ i < n
        · obtain ⟨h1, h2⟩ := hgo
          obtain ⟨b, off, c9, rfl, hc9, d0⟩ := HOC.out i h1
          have hon : On w w2 := HO1.out.gbv HAP.out (fun r hr => by cases hr; exact HG9.out)
          have c0 := cell_on hon d0
          obtain ⟨s, hs⟩ : ∃ s, s = c9 % n := ⟨_, rfl⟩
          have hsn : s < n := hs ▸ Nat.mod_lt _ (by omega)
          have HSI : Hid ((c9 : Int) % (n : Int) = (s : Int)) := by rw [hs]; exact Lib.hid (Int.natCast_emod _ _).symm
          have ha := HB.out.cell i (by rw [HPM.out.2]; exact h2)
          have hb := HB.out.cell s (by rw [HPM.out.2]; exact hsn)
          have fa := HB.out.free i
          have fb := HB.out.free s
          have HB3 : Hid (Blk g (((w2.setCell ⟨g, i, none⟩ (.int .u64 ((o.getD s 0 : Nat) : Int))).setCell ⟨g, s, none⟩ (.int .u64 ((o.getD i 0 : Nat) : Int))).drew) ((o.set i (o.getD s 0)).set s (o.getD i 0))) :=
            ((HB.out.set _ _ (by rw [HPM.out.2]; exact h2)).set _ _ (by rw [List.length_set, HPM.out.2]; exact hsn)).drewN 1
          have HP3 : Hid (((o.set i (o.getD s 0)).set s (o.getD i 0)).Perm A ∧ ((o.set i (o.getD s 0)).set s (o.getD i 0)).length = n) :=
            ⟨swap_perm o A i s (by rw [HPM.out.2]; exact h2) (by rw [HPM.out.2]; exact hsn) HPM.out.1, by rw [List.length_set, List.length_set]; exact HPM.out.2⟩
          have HAP3 : Hid (Ap g w1 (((w2.setCell ⟨g, i, none⟩ (.int .u64 ((o.getD s 0 : Nat) : Int))).setCell ⟨g, s, none⟩ (.int .u64 ((o.getD i 0 : Nat) : Int))).drew)) := ((HAP.out.setCell _ _).setCell _ _).drew
          have h1' : (i : Int) < (m : Int) := by omega
          have h2' : (i : Int) < (n : Int) := by omega
          have hn0 : ¬ n = 0 := by omega
          clear hs hon d0
          go_upto_region 16 with fail
          rw [HSI.out]
          clear HSI c0
          by_cases his : i = s
          · subst his
            generalize o.getD i 0 = x at *
            go_region
            go_wp2
            go_roundw
            case rel => exact ⟨i + 1, _, by omega, by omega, by simp, HP3, HB3, HAP3⟩
            case measure => simp [RowKit.intOf]; omega
          · have his2 : ¬ s = i := fun e => his e.symm
            generalize o.getD i 0 = x at *
            generalize o.getD s 0 = y at *
            go_region
            go_wp2
            go_roundw
            case rel => exact ⟨i + 1, _, by omega, by omega, by simp, HP3, HB3, HAP3⟩
            case measure => simp [RowKit.intOf]; omega
        · have hno : ¬ i < m ∨ (i < m ∧ ¬ i < n) := by omega
          have hon : On w w2 := HO1.out.gbv HAP.out (fun r hr => by cases hr; exact HG9.out)
          obtain ⟨hU, hPR, hsz⟩ := pr_new w2 k hon.tab
          obtain ⟨U, hUd⟩ : ∃ U, U = prW w2 w2.heap.size k := ⟨_, rfl⟩
          rw [← hUd] at hU hPR hsz
          unfold prW at hUd
          have HUd := Lib.hid hUd
          have hU1 : On U (U.alloc (.cells #[.slice (some ⟨ga, 0, none⟩) n ca, .slice (some ⟨g, 0, none⟩) n cg] 32)) := (On.refl hU.tab).alloc _
          have hgP : g < w2.heap.size := HB.out.1
          have hgaP : ga < g := HLT9.out
          have hBA2 : Blk ga U A := (HBA.out.ap HAP.out (by omega)).on hU
          have hBO : Blk g U o := HB.out.on hU
          have hAO : ∀ x ∈ o, x < 97 := fun x hx => HALT.out x (HPM.out.1.mem_iff.1 hx)
          have hAl : A.length = n := HAL.out
          have hol : o.length = n := HPM.out.2
          have rdA : ∀ W, Blk ga W A → Reads W (.slice (some ⟨ga, 0, none⟩) n ca) A := fun W h => by
            have h2 := h.reads (fun x hx => by have := HALT.out x hx; omega) (by omega) ca
            rw [hAl] at h2; exact h2
          have rdO : ∀ W (o' : List Nat), o'.length = n → (∀ x ∈ o', x < 97) → Blk g W o' → Reads W (.slice (some ⟨g, 0, none⟩) n cg) o' := fun W o' hl hx h => by
            have h2 := h.reads (fun x hx' => by have := hx x hx'; omega) (by omega) cg
            rw [hl] at h2; exact h2
          have HH1 : Hid (Calls Tryd.prog 24 #[.agg #[.int .i64 0, .int .i64 (k : Int), .int .i64 2, .int .i64 0, .slice none 0 0, .slice none 0 0, .slice (some ⟨w2.heap.size + 1 + 1 + 1 + 1, 0, none⟩) 1 1, .slice none 0 0], .agg #[.slice none 0 0, .slice (some ⟨U.heap.size, 0, none⟩) 2 2]] (U.alloc (.cells #[.slice (some ⟨ga, 0, none⟩) n ca, .slice (some ⟨g, 0, none⟩) n cg] 32)) fun e w' => e = .returned (.tuple #[.bool true, .int .i64 0]) ∧ On (U.alloc (.cells #[.slice (some ⟨ga, 0, none⟩) n ca, .slice (some ⟨g, 0, none⟩) n cg] 32)) w') :=
            holds_pr k hk1 hk4 A o U.heap.size _ _ ⟨none, none, some ⟨w2.heap.size + 1 + 1 + 1 + 1, 0, none⟩, none, 0, 0, 1, 0⟩ true _ hU1.tab (HPW.out.on (hon.trans (hU.trans hU1))) ((hPR.on hU1).sy hk4) (vb_new U _ _) (rdA _ (hBA2.on hU1)) (rdO _ o hol hAO (hBO.on hU1))
              (hAl.trans HN.out) (hol.trans HN.out) HALT.out hAO ⟨fun _ => pr_yes k A o (hAl.trans HN.out) (hol.trans HN.out) HPM.out.1, fun _ => rfl⟩
          -- the second call, on the changed column
          obtain ⟨x, hx⟩ : ∃ x, x = o.getD (at9 % n) 0 := ⟨_, rfl⟩
          have hsn : at9 % n < n := Nat.mod_lt _ (by omega)
          have hx97 : x < 97 := hx ▸ hAO _ (getD_mem _ _ (by rw [hol]; exact hsn))
          have HCx : Hid (∀ W, On (U.alloc (.cells #[.slice (some ⟨ga, 0, none⟩) n ca, .slice (some ⟨g, 0, none⟩) n cg] 32)) W → W.cell? ⟨g, at9 % n, none⟩ = some (.int .u64 (x : Int)) ∧ W.frozen? ⟨g, at9 % n, none⟩ = false) := fun W h => by
            have h2 := (hBO.on (hU1.trans h)); rw [hx]; exact ⟨h2.cell _ (by rw [hol]; exact hsn), h2.free _⟩
          have HCY : Hid (∀ W, On (U.alloc (.cells #[.slice (some ⟨ga, 0, none⟩) n ca, .slice (some ⟨g, 0, none⟩) n cg] 32)) W → VB (w2.heap.size + 1 + 1 + 1 + 1 + 1) W [.int .i64 0, .int .i64 (k : Int), .int .i64 2, .int .i64 0, .slice none 0 0, .slice none 0 0, .slice (some ⟨w2.heap.size + 1 + 1 + 1 + 1, 0, none⟩) 1 1, .slice none 0 0]) := fun W h => (hPR.on (hU1.trans h)).cells
          have HC0 : Hid (VB (w2.heap.size + 1 + 1 + 1 + 1 + 1) U [.int .i64 0, .int .i64 (k : Int), .int .i64 2, .int .i64 0, .slice none 0 0, .slice none 0 0, .slice (some ⟨w2.heap.size + 1 + 1 + 1 + 1, 0, none⟩) 1 1, .slice none 0 0]) := hPR.cells
          have HON := Lib.hid hon
          obtain ⟨y, hy⟩ : ∃ y, y = (x + 1 + c % 96) % 97 := ⟨_, rfl⟩
          have hyx : y ≠ x := by omega
          have hy97 : y < 97 := by omega
          have HYV : Hid (((x : Int) + 1 + (c : Int) % 96) % 97 = (y : Int)) := by
            unfold Hid; rw [hy]; omega
          have hyO : ∀ z ∈ o.set (at9 % n) y, z < 97 := fun z hz => by
            rcases List.mem_or_eq_of_mem_set hz with h | h
            · exact hAO z h
            · omega
          have hol2 : (o.set (at9 % n) y).length = n := by rw [List.length_set]; exact hol
          have hX1 : ∀ WX, On (U.alloc (.cells #[.slice (some ⟨ga, 0, none⟩) n ca, .slice (some ⟨g, 0, none⟩) n cg] 32)) WX → Ap g WX ((WX.setCell ⟨g, at9 % n, none⟩ (.int .u64 (y : Int))).drew) := fun WX h => ((Ap.refl g WX).setCell _ _).drew
          have hX2 : ∀ WX, On (U.alloc (.cells #[.slice (some ⟨ga, 0, none⟩) n ca, .slice (some ⟨g, 0, none⟩) n cg] 32)) WX → PR ((WX.setCell ⟨g, at9 % n, none⟩ (.int .u64 (y : Int))).drew) w2.heap.size k := fun WX h => (hPR.on (hU1.trans h)).ap (hX1 WX h) hgP
          have hX3 : ∀ WX, On (U.alloc (.cells #[.slice (some ⟨ga, 0, none⟩) n ca, .slice (some ⟨g, 0, none⟩) n cg] 32)) WX → On w ((WX.setCell ⟨g, at9 % n, none⟩ (.int .u64 (y : Int))).drew) := fun WX h => (hon.trans (hU.trans (hU1.trans h))).gbv (hX1 WX h) (fun r hr => by cases hr; exact HG9.out)
          have HX3 := Lib.hid hX3
          have HX2 : Hid (∀ WX, On (U.alloc (.cells #[.slice (some ⟨ga, 0, none⟩) n ca, .slice (some ⟨g, 0, none⟩) n cg] 32)) WX → VB (w2.heap.size + 1 + 1 + 1 + 1 + 1) ((WX.setCell ⟨g, at9 % n, none⟩ (.int .u64 (y : Int))).drew) [.int .i64 0, .int .i64 (k : Int), .int .i64 2, .int .i64 0, .slice none 0 0, .slice none 0 0, .slice (some ⟨w2.heap.size + 1 + 1 + 1 + 1, 0, none⟩) 1 1, .slice none 0 0]) := fun WX h => (hX2 WX h).cells
          have HH2 : Hid (∀ WX, On (U.alloc (.cells #[.slice (some ⟨ga, 0, none⟩) n ca, .slice (some ⟨g, 0, none⟩) n cg] 32)) WX → Calls Tryd.prog 24 #[.agg #[.int .i64 0, .int .i64 (k : Int), .int .i64 2, .int .i64 0, .slice none 0 0, .slice none 0 0, .slice (some ⟨w2.heap.size + 1 + 1 + 1 + 1, 0, none⟩) 1 1, .slice none 0 0], .agg #[.slice none 0 0, .slice (some ⟨(((WX.setCell ⟨g, at9 % n, none⟩ (.int .u64 (y : Int))).drew)).heap.size, 0, none⟩) 2 2]] (((WX.setCell ⟨g, at9 % n, none⟩ (.int .u64 (y : Int))).drew).alloc (.cells #[.slice (some ⟨ga, 0, none⟩) n ca, .slice (some ⟨g, 0, none⟩) n cg] 32)) fun e w' => e = .returned (.tuple #[.bool false, .int .i64 0]) ∧ On (((WX.setCell ⟨g, at9 % n, none⟩ (.int .u64 (y : Int))).drew).alloc (.cells #[.slice (some ⟨ga, 0, none⟩) n ca, .slice (some ⟨g, 0, none⟩) n cg] 32)) w') := fun WX h => by
            have hW := hX3 WX h
            have hA1 : On ((WX.setCell ⟨g, at9 % n, none⟩ (.int .u64 (y : Int))).drew) (((WX.setCell ⟨g, at9 % n, none⟩ (.int .u64 (y : Int))).drew).alloc (.cells #[.slice (some ⟨ga, 0, none⟩) n ca, .slice (some ⟨g, 0, none⟩) n cg] 32)) := (On.refl hW.tab).alloc _
            have hbA : Blk ga ((WX.setCell ⟨g, at9 % n, none⟩ (.int .u64 (y : Int))).drew) A := (hBA2.on (hU1.trans h)).ap (hX1 WX h) (by omega)
            have hbO : Blk g ((WX.setCell ⟨g, at9 % n, none⟩ (.int .u64 (y : Int))).drew) (o.set (at9 % n) y) := ((hBO.on (hU1.trans h)).set _ _ (by rw [hol]; exact hsn)).drewN 1
            exact holds_pr k hk1 hk4 A (o.set (at9 % n) y) (((WX.setCell ⟨g, at9 % n, none⟩ (.int .u64 (y : Int))).drew)).heap.size _ _ ⟨none, none, some ⟨w2.heap.size + 1 + 1 + 1 + 1, 0, none⟩, none, 0, 0, 1, 0⟩ false _ hA1.tab (HPW.out.on (hW.trans hA1)) (((hX2 WX h).on hA1).sy hk4) (vb_new _ _ _) (rdA _ (hbA.on hA1)) (rdO _ _ hol2 hyO (hbO.on hA1))
              (hAl.trans HN.out) (hol2.trans HN.out) HALT.out hyO ⟨fun e => (by cases e), fun e => absurd e (pr_no k A o (hAl.trans HN.out) (hol.trans HN.out) HPM.out.1 (at9 % n) y (by rw [hol]; exact hsn) (by rw [← hx]; exact hyx))⟩
          have HX := Lib.hid hx; have HY := Lib.hid hy
          clear hx hy hyO hol2 hX1 hX2 hX3
          clear HOC HP0 HAP0 HBG hon hgo hU hPR hsz hUd hU1 hBA2 hBO rdA rdO
          obtain ⟨q0, q1, q2, q3, q4, q5, q6, q7⟩ : _ ∧ _ ∧ _ ∧ _ ∧ _ ∧ _ ∧ _ ∧ _ := ⟨HC0.out.2.1 0 _ rfl, HC0.out.2.1 1 _ rfl, HC0.out.2.1 2 _ rfl, HC0.out.2.1 3 _ rfl, HC0.out.2.1 4 _ rfl, HC0.out.2.1 5 _ rfl, HC0.out.2.1 6 _ rfl, HC0.out.2.1 7 _ rfl⟩
          rcases hno with h1 | ⟨h1, h2⟩
          · have h1' : ¬ (i : Int) < (m : Int) := by omega
            go_upto_region 18 with fail
            rw [← HUd.out]
            go_upto_region 19 with (go_at_call 24; (refine HH1.out.mono ?_); rintro e w3 ⟨rfl, hO3⟩)
            clear q0 q1 q2 q3 q4 q5 q6 q7
            obtain ⟨cx, fx⟩ := HCx.out _ hO3
            have hsI : (at9 : Int) % (n : Int) < (n : Int) := by omega
            have hn0 : ¬ n = 0 := by omega
            go_region
            rw [HYV.out]
            have HH3 := Lib.hid (HH2.out _ hO3); have HW3 := Lib.hid (HX3.out _ hO3)
            obtain ⟨q0, q1, q2, q3, q4, q5, q6, q7⟩ : _ ∧ _ ∧ _ ∧ _ ∧ _ ∧ _ ∧ _ ∧ _ := ⟨(HX2.out _ hO3).2.1 0 _ rfl, (HX2.out _ hO3).2.1 1 _ rfl, (HX2.out _ hO3).2.1 2 _ rfl, (HX2.out _ hO3).2.1 3 _ rfl, (HX2.out _ hO3).2.1 4 _ rfl, (HX2.out _ hO3).2.1 5 _ rfl, (HX2.out _ hO3).2.1 6 _ rfl, (HX2.out _ hO3).2.1 7 _ rfl⟩
            generalize (w3.setCell ⟨g, at9 % n, none⟩ (.int .u64 (y : Int))).drew = W3 at *
            have hA3 : On W3 (W3.alloc (.cells #[.slice (some ⟨ga, 0, none⟩) n ca, .slice (some ⟨g, 0, none⟩) n cg] 32)) := (On.refl HW3.out.tab).alloc _
            have HA3 := Lib.hid hA3
            clear hA3 cx fx hsI hn0 HH2 HX2 HX3 HCx HCY HYV
            go_wp2_with (first | (go_at_call 24; (refine HH3.out.mono ?_); rintro e w4 ⟨rfl, hO4⟩) | (go_at_call 13; (refine (live_any _ hO4.tab).mono ?_); rintro e w5 ⟨rfl, hO5⟩) | fail)
            go_ret
            exact ⟨rfl, HW3.out.trans (HA3.out.trans (hO4.trans hO5))⟩
          · have h1' : (i : Int) < (m : Int) := by omega
            have h2' : ¬ (i : Int) < (n : Int) := by omega
            go_upto_region 18 with fail
            rw [← HUd.out]
            go_upto_region 19 with (go_at_call 24; (refine HH1.out.mono ?_); rintro e w3 ⟨rfl, hO3⟩)
            clear q0 q1 q2 q3 q4 q5 q6 q7
            obtain ⟨cx, fx⟩ := HCx.out _ hO3
            have hsI : (at9 : Int) % (n : Int) < (n : Int) := by omega
            have hn0 : ¬ n = 0 := by omega
            go_region
            rw [HYV.out]
            have HH3 := Lib.hid (HH2.out _ hO3); have HW3 := Lib.hid (HX3.out _ hO3)
            obtain ⟨q0, q1, q2, q3, q4, q5, q6, q7⟩ : _ ∧ _ ∧ _ ∧ _ ∧ _ ∧ _ ∧ _ ∧ _ := ⟨(HX2.out _ hO3).2.1 0 _ rfl, (HX2.out _ hO3).2.1 1 _ rfl, (HX2.out _ hO3).2.1 2 _ rfl, (HX2.out _ hO3).2.1 3 _ rfl, (HX2.out _ hO3).2.1 4 _ rfl, (HX2.out _ hO3).2.1 5 _ rfl, (HX2.out _ hO3).2.1 6 _ rfl, (HX2.out _ hO3).2.1 7 _ rfl⟩
            generalize (w3.setCell ⟨g, at9 % n, none⟩ (.int .u64 (y : Int))).drew = W3 at *
            have hA3 : On W3 (W3.alloc (.cells #[.slice (some ⟨ga, 0, none⟩) n ca, .slice (some ⟨g, 0, none⟩) n cg] 32)) := (On.refl HW3.out.tab).alloc _
            have HA3 := Lib.hid hA3
            clear hA3 cx fx hsI hn0 HH2 HX2 HX3 HCx HCY HYV
            go_wp2_with (first | (go_at_call 24; (refine HH3.out.mono ?_); rintro e w4 ⟨rfl, hO4⟩) | (go_at_call 13; (refine (live_any _ hO4.tab).mono ?_); rintro e w5 ⟨rfl, hO5⟩) | fail)
            go_ret
            exact ⟨rfl, HW3.out.trans (HA3.out.trans (hO4.trans hO5))⟩
end Go.Proofs.YtbgljelpldnldaaDoor
