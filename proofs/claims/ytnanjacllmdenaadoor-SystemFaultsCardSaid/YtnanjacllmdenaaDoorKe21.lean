/- Package system: valueOf, text: what the calls return. -/
import Derived.Test.YtnanjacllmdenaaDoorKe19
import Derived.Test.YtnanjacllmdenaaDoorKe20
import Derived.Test.YtnanjacllmdenaaDoorKe02
import Derived.Lib.BufferRead
import Derived.Lib.Slices
import Derived.Laws.IdiomStrings
import Derived.WalkKit
import Derived.BigCall
set_option linter.unusedSimpArgs false
set_option linter.unusedVariables false
/- Package system: valueOf, text: what the calls return. -/
namespace Go.Proofs.YtnanjacllmdenaaDoor
open Go.Shelf Go.RowKit Go.Lib Go.Sort
set_option linter.unusedVariables false

/-- The text of a tuple's values. -/
def txtT : List Nat → List UInt8
  | [] => []
  | x :: l => decDigits x ++ 32 :: txtT l
theorem txtT_snoc (l : List Nat) (x : Nat) : txtT (l ++ [x]) = txtT l ++ (decDigits x ++ [32]) := by
  induction l with
  | nil => simp [txtT]
  | cons y l ih => simp only [List.cons_append, txtT, ih, List.append_assoc]
theorem dec_ne32 (u : Nat) : ∀ b ∈ decDigits u, b ≠ 32 := fun b hb e => by
  have := dec_dig u b hb
  subst e; exact absurd this.1 (by decide)
theorem txtT_inj : ∀ {l m : List Nat}, txtT l = txtT m → l = m
  | [], [], _ => rfl
  | [], y :: m, h => by
    have := congrArg List.length h
    simp [txtT] at this
  | x :: l, [], h => by
    have := congrArg List.length h
    simp [txtT] at this
  | x :: l, y :: m, h => by
    simp only [txtT] at h
    obtain ⟨h1, h2⟩ := cut_at (dec_ne32 x) (dec_ne32 y) h
    rw [dec_inj h1, txtT_inj h2]
theorem dec_len (u : Nat) (h : u < 18446744073709551616) : (decDigits u).length ≤ 20 := by rw [decDigits_length]; exact nDigits_le u (by omega)
theorem txtT_len : ∀ l : List Nat, (∀ x ∈ l, x < 18446744073709551616) → (txtT l).length ≤ l.length * 21
  | [], _ => by simp [txtT]
  | x :: l, h => by
    have h1 := dec_len x (h x (by simp))
    have h2 := txtT_len l (fun y hy => h y (List.mem_cons_of_mem _ hy))
    simp only [txtT, List.length_append, List.length_cons]; omega
/-- The library's table of powers of ten. -/
def Pwz (w : World) : Prop := Lib.TabIs Tryd.prog w "internal/strconv.uint64pow10" .u64 Lib.pow10Tab
theorem Pwz.below {w : World} (h : Pwz w) : Lib.TabBelow Tryd.prog w.heap.size w "internal/strconv.uint64pow10" .u64 Lib.pow10Tab := Lib.tabBelow_of_tabIs h
theorem Pwz.on {W w : World} (h : Pwz W) (k : On W w) : Pwz w := h.below w k.2
theorem apuz_any (B n u : Nat) (hu64 : u < 18446744073709551616) (sv : Value) (xs : List Value) (w : World) (hown : w.ownsRow B 5 1 sv n xs) (hBw : B ≤ w.heap.size) (hlim : n + 20 ≤ 140737488355328) (htab : Pwz w) :
    Calls Tryd.prog 143 #[sv, .int .u64 u, .int .i64 10] w fun e w' => ∃ v', e = .returned v' ∧ w'.ownsRow B 5 1 v' (n + (Lib.decDigits u).length) (xs ++ Lib.byteCells (Lib.decDigits u)) ∧ Below B w w' := by
  have HC := Lib.hid (Tryd.internal_strconv_AppendUint_10 B n u hu64 sv xs w hown hBw hlim htab)
  clear hown htab
  go_enter Tryd.func143, Tryd.ntmps143
  go_wp2_with (go_at_call 161; refine HC.out.mono ?_; rintro e w' ⟨v', rfl, h1, h2, h3⟩)
  go_ret
  exact ⟨v', rfl, h1, h2⟩
theorem info_u8z : (Tryd.prog.info? 5).map (fun i => (i.zero, i.size, i.bytes)) = some (some (.int .u8 0), 1, 1) := by kernel_rfl
/-- append(b, c) of one byte. -/
theorem append_bytez {B : Nat} {w : World} {v : Value} {n : Nat} {xs : List Value} (hown : w.ownsRow B 5 1 v n xs) (hB : B ≤ w.heap.size) (hn : n ≤ 100000000000) (c : Int) :
    ∃ v' w', (∀ ty, (Builtin.append_ #[174, 174] ty #[v, .slice (some ⟨w.heap.size, 0, none⟩) 1 1]).run Tryd.prog (w.alloc (.cells #[.int .u8 c] 5)) = .ok v' w') ∧ w'.ownsRow B 5 1 v' (n + 1) (xs ++ [.int .u8 c]) ∧ Below B w w' := by
  obtain ⟨i0, hi, hz0, hz1, hz2⟩ := info_parts info_u8z
  have hb2 := vb_new w #[.int .u8 c] 5
  obtain ⟨v', w', h1, h2, h3, -⟩ := append_cells (P := Tryd.prog) (w.alloc (.cells #[.int .u8 c] 5)) B 174 5 i0 (.int .u8 0) 1 1 Tryd.underlying174 hi hz0 hz1 hz2 rfl (by omega) v n xs (hown.alloc _) (some ⟨w.heap.size, 0, none⟩) 1 1 [.int .u8 c] rfl
    (fun _ => ⟨_, rfl, fun j u hj => by
      obtain rfl : j = 0 := by
        have := (List.getElem?_eq_some_iff.1 hj).1; simp at this; omega
      simp only [List.getElem?_cons_zero, Option.some.injEq] at hj
      subst hj
      exact hb2.2.1 0 _ rfl⟩) (by intro u hu; simp at hu; subst hu; rfl) (by unfold maxLen; omega) (by omega) (by simp; omega)
  exact ⟨v', w', h1, h2, ((Below.refl B w).alloc hB _).grown h3 (by simp; omega) (fun k hk => (hown.lt k hk).1)⟩
/-- A variable of a tuple, in an environment. -/
def inE (E : En) (v : Vr) : Prop := (v.1 = 1 ∨ v.1 = 3) ∧ 0 ≤ v.2 ∧ v.2.toNat < (enL E v.1).length
set_option maxHeartbeats 1000000 in
set_option maxRecDepth 100000 in
theorem valueof_any (k i : Int) (V : Ev) (E : En) (w : World) (hT : Tab w) (hE : EnR w V E) (hv : inE E (k, i)) :
    Calls Tryd.prog 95 #[.agg #[.int .u8 k, .int .i64 i], evA V] w fun e w' => e = .returned (.int .u64 ((valE E (k, i) : Nat) : Int)) ∧ On w w' := by
  obtain ⟨hk, hi, hlt⟩ := hv
  simp only at hk hi hlt
  obtain ⟨n, rfl⟩ : ∃ n : Nat, i = (n : Int) := ⟨i.toNat, by omega⟩
  rw [Int.toNat_natCast] at hlt
  have eV : valE E (k, (n : Int)) = (enL E k).getD n 0 := by unfold valE; simp
  rw [eV]
  have hG := hE.get k
  obtain ⟨v1, v2, v3, v4, v5, v6, v7⟩ := V
  obtain ⟨W0, hW0⟩ : ∃ W0, W0 = (w.alloc (.cells #[.int .u8 k, .int .i64 (n : Int)] 52)).alloc (.cells #[v1, v2, v3, v4, v5, v6, v7] 61) := ⟨_, rfl⟩
  have hA1 := (On.refl hT).alloc (.cells #[.int .u8 k, .int .i64 (n : Int)] 52)
  have hA2 := (On.refl hA1.tab).alloc (.cells #[v1, v2, v3, v4, v5, v6, v7] 61)
  have hO0 : On w W0 := by rw [hW0]; exact hA1.trans hA2
  obtain ⟨Q, hQ⟩ : ∃ Q, Q = w.heap.size := ⟨_, rfl⟩
  have hB0 : VB Q W0 [.int .u8 k, .int .i64 (n : Int)] := by rw [hW0, hQ]; exact (vb_new w _ _).on hA2
  have hB1 : VB (Q + 1) W0 [v1, v2, v3, v4, v5, v6, v7] := by
    have h := vb_new (w.alloc (.cells #[.int .u8 k, .int .i64 (n : Int)] 52)) #[v1, v2, v3, v4, v5, v6, v7] 61
    rw [World.size_alloc] at h
    rw [hW0, hQ]; exact h
  have x0 := hB0.2.1 0 _ rfl; have x1 := hB0.2.1 1 _ rfl
  have y0 := hB1.2.1 0 _ rfl; have y2 := hB1.2.1 2 _ rfl
  have HW0 := Lib.hid hW0; have HQ := Lib.hid hQ; have HO0 := Lib.hid hO0
  have hread : ∀ {v : Value} {l : List Nat}, Reads w v l → n < l.length → ∃ b o c, v = .slice (some ⟨b, o, none⟩) l.length c ∧ W0.cell? ⟨b, o + n, none⟩ = some (.int .u64 ((l.getD n 0 : Nat) : Int)) := fun {v l} h hl => by
    rcases h.2.2 with ⟨rfl, _⟩ | ⟨b, o, c, rfl, hc⟩
    · simp at hl
    · exact ⟨b, o, c, rfl, cell_on hO0 (hc n hl)⟩
  have hll := hG.2.1
  obtain ⟨b, o, c, e, hc⟩ := hread hG hlt
  clear hT hE hA1 hA2 hW0 hQ hO0 hB0 hB1 hread hG eV
  have hlt' : (n : Int) < ((enL E k).length : Int) := by omega
  rcases hk with rfl | rfl
  · have e1 : enV ⟨v1, v2, v3, v4, v5, v6, v7⟩ 1 = v1 := rfl
    rw [e1] at e
    clear e1
    generalize (enL E 1).getD n 0 = z at *
    generalize (enL E 1).length = m at *
    subst e
    go_enter Tryd.func95, Tryd.ntmps95
    go_upto_region 1 with fail
    rw [← HW0.out, ← HQ.out]
    go_wp2
    go_ret
    exact ⟨rfl, HO0.out⟩
  · have e1 : enV ⟨v1, v2, v3, v4, v5, v6, v7⟩ 3 = v3 := rfl
    rw [e1] at e
    clear e1
    generalize (enL E 3).getD n 0 = z at *
    generalize (enL E 3).length = m at *
    subst e
    go_enter Tryd.func95, Tryd.ntmps95
    go_upto_region 1 with fail
    rw [← HW0.out, ← HQ.out]
    go_wp2
    go_ret
    exact ⟨rfl, HO0.out⟩
set_option maxHeartbeats 2000000 in
set_option maxRecDepth 100000 in
theorem text_any (t : List Vr) (ua : Option Addr) (uc : Nat) (V : Ev) (E : En) (w : World) (hT : Tab w) (hP : Pwz w) (hR : VRw w (.slice ua t.length uc) t) (hE : EnR w V E) (hv : ∀ v ∈ t, inE E v) (hU : ∀ v ∈ t, valE E v < 18446744073709551616) (hl : t.length ≤ 1000) :
    Calls Tryd.prog 93 #[.slice ua t.length uc, evA V] w fun e w' => e = .returned (.string ⟨(txtT (t.map (valE E))).toArray⟩) ∧ On w w' := by
  obtain ⟨W0, hW0⟩ : ∃ W0, W0 = w.alloc (.cells #[V.v1, V.v2, V.v3, V.v4, V.v5, V.v6, V.v7] 61) := ⟨_, rfl⟩
  have hO0 : On w W0 := by rw [hW0]; exact (On.refl hT).alloc _
  obtain ⟨Q, hQ⟩ : ∃ Q, Q = w.heap.size := ⟨_, rfl⟩
  have HB0 : Hid (VB Q W0 (evL V)) := by rw [hW0, hQ]; exact Lib.hid (vb_new w _ _)
  have HR := Lib.hid hR.cells
  have HOK := Lib.hid hR.okD
  have HE := Lib.hid (hE.on hO0)
  have HP := Lib.hid (hP.on hO0)
  have HIN : Hid (∀ j, j < t.length → inE E (t.getD j zV) ∧ valE E (t.getD j zV) < 18446744073709551616) := fun j hj => by
    have hm : t.getD j zV ∈ t := by rw [List.getD_eq_getElem?_getD, List.getElem?_eq_getElem hj]; exact List.getElem_mem _
    exact ⟨hv _ hm, hU _ hm⟩
  have HS : Hid (∀ j, j < t.length → txtT ((t.take (j + 1)).map (valE E)) = txtT ((t.take j).map (valE E)) ++ (decDigits (valE E (t.getD j zV)) ++ [32])) := fun j hj => by
    rw [List.take_succ_eq_append_getElem hj, List.map_append, List.map_singleton, txtT_snoc, List.getD_eq_getElem?_getD, List.getElem?_eq_getElem hj]; rfl
  have HLN : Hid (∀ j, j ≤ t.length → (txtT ((t.take j).map (valE E))).length ≤ 21000) := fun j hj => by
    have h := txtT_len ((t.take j).map (valE E)) (fun x hx => by
      obtain ⟨v, hv2, rfl⟩ := List.mem_map.1 hx
      exact hU v (List.mem_of_mem_take hv2))
    rw [List.length_map, List.length_take] at h
    have : min j t.length ≤ 1000 := by omega
    omega
  have HA : Hid (txtT ((t.take t.length).map (valE E)) = txtT (t.map (valE E))) := by rw [List.take_length]; exact Lib.hid rfl
  have HW0 := Lib.hid hW0; have HQ := Lib.hid hQ; have HO0 := Lib.hid hO0
  obtain ⟨n, hn⟩ : ∃ n, n = t.length := ⟨_, rfl⟩
  rw [← hn] at HR HIN HS HLN HA hl ⊢
  have H00 : Hid (On W0 W0) := Lib.hid (On.refl hO0.tab)
  clear hT hP hR hE hv hU hW0 hO0 hQ hn
  obtain ⟨v1, v2, v3, v4, v5, v6, v7⟩ := V
  go_enter Tryd.func93, Tryd.ntmps93
  go_upto_region 1 with fail
  rw [← HW0.out, ← HQ.out]
  go_wp2_with fail
  go_loopw [5, 10] (fun vb vi wr => ∃ k : Nat, k ≤ n ∧ vi = .int .i64 (k : Int) ∧ Hid (wr.ownsRow W0.heap.size 5 1 vb (txtT ((t.take k).map (valE E))).length (byteCells (txtT ((t.take k).map (valE E))))) ∧ Hid (On W0 wr)) (fun _ vi _ => n - (RowKit.intOf vi).toNat)
  case atStart => exact ⟨0, Nat.zero_le _, rfl, Lib.hid (World.ownsRow_nil _ _ _ _), H00⟩
  case round =>
    rename World => wr
    obtain ⟨k, hk, rfl, HV, HO⟩ := hrel
    by_cases hlt : k < n
    · obtain ⟨b, off, rfl, c0, c1⟩ := HR.out k hlt
      have c0' := cell_on (HO0.out.trans HO.out) c0
      have c1' := cell_on (HO0.out.trans HO.out) c1
      have hlt' : (k : Int) < (n : Int) := by omega
      obtain ⟨hin, huu⟩ := HIN.out k hlt
      have HSk := Lib.hid (HS.out k hlt)
      have hln := HLN.out k hk
      clear c0 c1
      generalize t.getD k zV = x at *
      obtain ⟨xk, xi⟩ := x
      simp only at c0' c1'
      go_upto_region 5 with fail
      obtain ⟨u, hu⟩ : ∃ u, u = wr.alloc (.cells #[.int .u8 xk, .int .i64 xi] 52) := ⟨_, rfl⟩
      obtain ⟨X, hX⟩ : ∃ X, X = wr.heap.size := ⟨_, rfl⟩
      rw [← hu, ← hX]
      have hOu : On wr u := by rw [hu]; exact (On.refl HO.out.tab).alloc _
      have hBX : VB X u [.int .u8 xk, .int .i64 xi] := by rw [hu, hX]; exact vb_new wr _ _
      have x0 := hBX.2.1 0 _ rfl; have x1 := hBX.2.1 1 _ rfl
      have hBQ := HB0.out.on (HO.out.trans hOu)
      have y0 := hBQ.2.1 0 _ rfl; have y1 := hBQ.2.1 1 _ rfl; have y2 := hBQ.2.1 2 _ rfl; have y3 := hBQ.2.1 3 _ rfl; have y4 := hBQ.2.1 4 _ rfl; have y5 := hBQ.2.1 5 _ rfl; have y6 := hBQ.2.1 6 _ rfl
      have HC1 := Lib.hid (valueof_any xk xi _ E u hOu.tab (HE.out.on (HO.out.trans hOu)) hin)
      have HVU := Lib.hid (HV.out.kept (row := none) ⟨hOu.2.os, hOu.2.tape, hOu.2.output, hOu.size, fun b hb _ => hOu.2.block b hb⟩ (by rcases hv : u5.ownBlock with _ | _ <;> simp))
      have HOU := Lib.hid (HO.out.trans hOu)
      clear hu hX hOu hBX hBQ hin HV HO c0' c1'
      generalize valE E (xk, xi) = z at *
      generalize txtT ((t.take k).map (valE E)) = kb at *
      go_wp2_with (go_at_call 95; (with_reducible refine HC1.out.mono ?_); rintro e wb ⟨rfl, hOb⟩; refine Hid.out ?_)
      refine Lib.hid ?_
      have HVB := Lib.hid (HVU.out.kept (row := none) ⟨hOb.2.os, hOb.2.tape, hOb.2.output, hOb.size, fun b hb _ => hOb.2.block b hb⟩ (by rcases hv : u5.ownBlock with _ | _ <;> simp))
      have HOB := Lib.hid (HOU.out.trans hOb)
      clear hOb x0 x1 y0 y1 y2 y3 y4 y5 y6 HC1 HVU
      have HC2 := Lib.hid (apuz_any W0.heap.size kb.length z huu _ _ wb HVB.out HOB.out.size (by omega) (HP.out.on HOB.out))
      go_wp2_with (go_at_call 143; (with_reducible refine HC2.out.mono ?_); rintro e wc ⟨v1, rfl, hown1, hbl1⟩; refine Hid.out ?_)
      refine Lib.hid ?_
      have HO1 : Hid (On W0 wc) := Lib.hid ⟨HOB.out.1, HOB.out.2.trans hbl1⟩
      have hd1 := dec_len z huu
      obtain ⟨v2, w2, hrun2, hown2, hbl2⟩ := append_bytez hown1 HO1.out.size (by omega) 32
      have HO2 : Hid (On W0 w2) := Lib.hid ⟨HO1.out.1, HO1.out.2.trans hbl2⟩
      have HRUN := Lib.hid hrun2
      have HV2 : Hid (w2.ownsRow W0.heap.size 5 1 v2 (txtT ((t.take (k + 1)).map (valE E))).length (byteCells (txtT ((t.take (k + 1)).map (valE E))))) := by
        rw [HSk.out]
        have e1 : byteCells (kb ++ (decDigits z ++ [32])) = (byteCells kb ++ byteCells (decDigits z)) ++ [.int .u8 32] := by simp [byteCells]
        have e2 : (kb ++ (decDigits z ++ [32])).length = kb.length + (decDigits z).length + 1 := by simp; omega
        rw [e1, e2]; exact Lib.hid hown2
      clear hrun2 hown2 hbl2 hown1 hbl1 HVB HC2
      go_wp2_with (at_builtin; refine wp_appendJ rfl (.tmp 19) (.tmp 20) _ _ rfl _ _ v2 rfl rfl HRUN.out ?_)
      go_roundw
      case rel => exact ⟨k + 1, by omega, by simp, HV2, HO2⟩
      case measure => simp [RowKit.intOf]; omega
    · obtain rfl : n = k := by omega
      rw [HA.out] at HV
      obtain ⟨kb, hkb0⟩ : ∃ kb, kb = txtT (t.map (valE E)) := ⟨_, rfl⟩
      rw [← hkb0] at HV
      have HKB := Lib.hid hkb0
      have HOZ := Lib.hid (HO0.out.trans HO.out)
      clear hkb0 HLN HIN HR
      rcases HV.out.2 with ⟨hnil, h0⟩ | ⟨g, cap2, cur, hsl, -, -, -, -, -, -⟩
      · have hkb : kb = [] := List.length_eq_zero_iff.1 h0
        have hcv := run_convert_nil_bytes (P := Tryd.prog) wr 174 9 5 0 Tryd.underlying174 Tryd.underlying5 Tryd.underlying9
        subst hkb
        subst hnil
        clear HV
        go_wp2
        go_ret
        exact ⟨by rw [← HKB.out]; rfl, HOZ.out⟩
      · have hown := HV.out
        rw [hsl] at hown
        have hcv := run_convert_bytes_back (P := Tryd.prog) wr 174 9 5 ⟨g, 0, none⟩ cap2 kb Tryd.underlying174 Tryd.underlying5 Tryd.underlying9 (fun j hj => hown.cells (g := g) rfl j _ (by simp [Lib.byteCells, hj]))
        subst hsl
        clear HV hown
        go_wp2
        go_ret
        exact ⟨by rw [← HKB.out]; rfl, HOZ.out⟩
end Go.Proofs.YtnanjacllmdenaaDoor
