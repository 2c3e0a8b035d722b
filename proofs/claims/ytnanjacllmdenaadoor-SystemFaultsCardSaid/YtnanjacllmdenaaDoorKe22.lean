/- Package system: permHolds: what the calls return. -/
import Derived.Test.YtnanjacllmdenaaDoorKe21
import Derived.Maps.OwnSet
import Derived.Maps.RangeWalk
import Derived.Test.YtnanjacllmdenaaDoorKe09
import Derived.Carry
import Derived.Laws.EntriesVeiled
import Derived.Test.YtnanjacllmdenaaDoorKe10
set_option linter.unusedSimpArgs false
set_option linter.unusedVariables false
/- Package system: permHolds: what the calls return. -/
namespace Go.Proofs.YtnanjacllmdenaaDoor
open Go.RowKit Go.Lib
set_option linter.unusedVariables false

theorem lawSz : Maps.Keyed Tryd.prog 9 := Maps.string_keyed Tryd.underlying9
theorem zeroIz (w : World) : (zeroValue 3).run Tryd.prog w = .ok (.int .i64 0) w := by kernel_rfl
abbrev Key := List UInt8
/-- Whose map holds F: the variable's box lies behind the map. -/
def MX (W0 w : World) (F : Key → Int) (N : Nat) : Prop :=
  On W0 w ∧ VB (W0.heap.size + 1) w [.map (some W0.heap.size)] ∧ ∃ D : DataW Unit, w.ownsMap Tryd.prog 9 (plainElem Tryd.prog 3) W0.heap.size N D ∧ ∀ s : Key, D.atKey (.string s) (.lit (.int .i64 0)) = .lit (.int .i64 (F s))
theorem On.gbnz {W w : World} (h : On W w) : W.grownBy w none := ⟨h.2.os, h.2.tape, h.2.output, h.2.size, fun i hi _ => h.2.block i hi⟩
theorem MX.on {W0 w w' : World} {F : Key → Int} {N : Nat} (h : MX W0 w F N) (k : On w w') : MX W0 w' F N := by
  obtain ⟨h1, h2, D, h3, h4⟩ := h
  exact ⟨h1.trans k, h2.on k, D, h3.kept k.gbnz (by simp), h4⟩
theorem keyOf_str (s : Key) (hs : s.length ≤ 1000000) : keyOf Tryd.prog 9 (.string ⟨s.toArray⟩) = some (.string s) := by
  have h := WideMaps.keyOf_string_mk (P := Tryd.prog) (k := 9) Tryd.underlying9 (s := ⟨s.toArray⟩) (by unfold maxLen; simp [ByteArray.size]; omega)
  simpa using h
theorem isKeyS (s : Key) (hs : s.length ≤ 1000000) : WideAt.IsKeyLit (.string s) := lawSz.key (keyOf_str s hs)
/-- One look-up, and one store. -/
theorem MX.step {W0 w : World} {F : Key → Int} {N : Nat} (h : MX W0 w F N) (hN : N ≤ 1000000) (s : Key) (hs : s.length ≤ 1000000) (x : Int) (hx : -9223372036854775808 ≤ x ∧ x ≤ 9223372036854775807) :
    (Instr.lookup 133 (.map (some W0.heap.size)) (.string ⟨s.toArray⟩) false).run Tryd.prog w = .ok (.int .i64 (F s)) w ∧
      ∃ w', (Instr.mapUpdate 133 (.map (some W0.heap.size)) (.string ⟨s.toArray⟩) (.int .i64 x)).run Tryd.prog w = .ok () w' ∧ MX W0 w' (fun t => if t = s then x else F t) (N + 1) ∧ ∀ B l, VB B w l → B ≠ W0.heap.size → VB B w' l := by
  obtain ⟨h1, h2, D, h3, h4⟩ := h
  obtain ⟨c, hrun, hat, _⟩ := h3.lookup_int lawSz Tryd.underlying133 Tryd.underlying3 (zeroIz w) (keyOf_str s hs)
  have hc : c = F s := by rw [h4 s] at hat; simpa using hat.symm
  subst hc
  have hwf : (Lit.int .i64 x).wf = true := WalkArith.wf_i64 (by omega)
  obtain ⟨w', hst, hown, hg⟩ := h3.update lawSz Tryd.underlying133 (by unfold maxLen; omega) (keyOf_str s hs) (plainElem_int Tryd.underlying3 hwf)
  refine ⟨hrun, w', hst, ⟨⟨h1.1, h1.2.grown hg h1.2.size (fun r hr => by simp only [Option.some.injEq] at hr; omega)⟩, h2.kept hg.size (hg.block _ h2.1 (by simp)), _, hown, fun t => ?_⟩, fun B l hb hne => hb.kept hg.size (hg.block _ hb.1 (by simp; exact hne))⟩
  by_cases e : t = s
  · subst e
    simp only [if_true]; exact Maps.atKey_put_same (h3.isMap) (isKeyS t hs) _ _
  · simp only [if_neg e]; rw [Maps.atKey_put_other (by simpa using e), h4]
/-- The keys of the tuples in a row; in the first n rows. -/
def rowK (E : En) (tl : List (List Vr)) : List Key := tl.map fun t => txtT (t.map (valE E))
def keysK (E : Nat → En) (tl : List (List Vr)) (n : Nat) : List Key := (List.range n).flatMap fun k => rowK (E k) tl
def addF' (F : Key → Int) (b : Int) (l : List Key) : Key → Int := fun s => F s + b * ((l.count s : Nat) : Int)
theorem addF'_nil (F : Key → Int) (b : Int) : addF' F b [] = F := by funext s; simp [addF']
theorem addF'_snoc (F : Key → Int) (b : Int) (l : List Key) (x : Key) : (fun t => if t = x then addF' F b l x + b else addF' F b l t) = addF' F b (l ++ [x]) := by
  funext t
  unfold addF'
  rw [List.count_append, List.count_singleton]
  by_cases e : t = x
  · subst e; simp; rw [Int.mul_add]; omega
  · rw [if_neg e]
    have : (x == t) = false := by simp; exact fun h => e h.symm
    rw [this]; simp
theorem addF'_add (F : Key → Int) (b : Int) (l m : List Key) : addF' (addF' F b l) b m = addF' F b (l ++ m) := by
  funext t; unfold addF'; rw [List.count_append, Int.natCast_add, Int.mul_add]; omega
theorem keysK_succ (E : Nat → En) (tl : List (List Vr)) (n : Nat) : keysK E tl (n + 1) = keysK E tl n ++ rowK (E n) tl := by
  unfold keysK; rw [List.range_succ, List.flatMap_append]; simp
theorem keysK_len (E : Nat → En) (tl : List (List Vr)) : ∀ n, (keysK E tl n).length = n * tl.length
  | 0 => by simp [keysK]
  | n + 1 => by rw [keysK_succ, List.length_append, keysK_len E tl n, Nat.add_mul, Nat.one_mul]; simp [rowK]
theorem rowK_snoc (E : En) (tl : List (List Vr)) (j : Nat) (h : j < tl.length) : (rowK E tl).take (j + 1) = (rowK E tl).take j ++ [txtT ((tl.getD j []).map (valE E))] := by
  rw [List.take_succ_eq_append_getElem (by simpa [rowK] using h), List.getD_eq_getElem?_getD, List.getElem?_eq_getElem h]; simp [rowK]
/-- Environments in memory, one behind the other, in block g. -/
def RowsR (W0 : World) (g : Nat) (evs : Nat → Ev) (E : Nat → En) (N : Nat) : Prop := ∀ k, k < N → (∀ wq, On W0 wq → wq.cell? ⟨g, k * 7, none⟩ = some (evs k).v1 ∧ wq.cell? ⟨g, k * 7 + 1, none⟩ = some (evs k).v2 ∧ wq.cell? ⟨g, k * 7 + 2, none⟩ = some (evs k).v3 ∧ wq.cell? ⟨g, k * 7 + 3, none⟩ = some (evs k).v4 ∧ wq.cell? ⟨g, k * 7 + 4, none⟩ = some (evs k).v5 ∧ wq.cell? ⟨g, k * 7 + 5, none⟩ = some (evs k).v6 ∧ wq.cell? ⟨g, k * 7 + 6, none⟩ = some (evs k).v7) ∧ EnR W0 (evs k) (E k)
/-- The tuples can be read in each of the environments. -/
def okTup (E : Nat → En) (N : Nat) (t : List Vr) : Prop := t.length ≤ 4 ∧ ∀ k, k < N → ∀ v ∈ t, inE (E k) v ∧ valE (E k) v < 18446744073709551616
theorem okTup_len {E : Nat → En} {N : Nat} {t : List Vr} (h : okTup E N t) {k : Nat} (hk : k < N) : (txtT (t.map (valE (E k)))).length ≤ 84 := by
  have h2 := txtT_len (t.map (valE (E k))) (fun x hx => by
    obtain ⟨v, hv, rfl⟩ := List.mem_map.1 hx
    exact (h.2 k hk v hv).2)
  rw [List.length_map] at h2
  have := h.1; omega
set_option maxHeartbeats 4000000 in
set_option maxRecDepth 100000 in
theorem count_any (W0 : World) (Qr g NR cap : Nat) (evs : Nat → Ev) (E : Nat → En) (tl : List (List Vr)) (a : Option Addr) (c : Nat) (by1 : Int) (F : Key → Int) (N : Nat) (w : World) (hP : Pwz W0) (hM : MX W0 w F N) (hT : TupL W0 (.slice a tl.length c) tl)
    (hrow : RowsR W0 g evs E NR) (hQr : VB Qr W0 [.slice (some ⟨g, 0, none⟩) NR cap]) (hok : ∀ t ∈ tl, okTup E NR t) (htl : tl.length ≤ 4) (hNR : NR ≤ 8192) (hN : N ≤ 100000) (hby : by1 = 1 ∨ by1 = -1) (hF : ∀ s, -100000 ≤ F s ∧ F s ≤ 100000) :
    Calls Tryd.prog 92 #[.slice a tl.length c, .int .i64 by1, .pointer (some ⟨Qr, 0, none⟩), .pointer (some ⟨W0.heap.size + 1, 0, none⟩)] w fun e w' => e = .returned (.tuple #[]) ∧ MX W0 w' (addF' F by1 (keysK E tl NR)) (N + NR * tl.length) := by
  have HM := Lib.hid hM
  have HP := Lib.hid hP
  have HQR := Lib.hid hQr
  have HROW := Lib.hid hrow
  have HF := Lib.hid hF
  have HTP : Hid (∀ j, j < tl.length → ∃ b off ua uc, a = some ⟨b, off, none⟩ ∧ (∀ wq, On W0 wq → wq.cell? ⟨b, off + j, none⟩ = some (.slice ua (tl.getD j []).length uc)) ∧ VRw W0 (.slice ua (tl.getD j []).length uc) (tl.getD j [])) := fun j hj => by
    obtain ⟨b, off, e, u, h1, h2⟩ := hT.cells j hj
    obtain ⟨ua, uc, rfl⟩ := h2.shape
    rw [Nat.mul_one] at h1
    exact ⟨b, off, ua, uc, e, fun wq ho => cell_on ho h1, h2⟩
  have HOK : Hid (∀ j, j < tl.length → okTup E NR (tl.getD j [])) := fun j hj => hok _ (by rw [List.getD_eq_getElem?_getD, List.getElem?_eq_getElem hj]; exact List.getElem_mem _)
  have HZ : Hid (addF' F by1 (keysK E tl 0) = F) := Lib.hid (by rw [show keysK E tl 0 = [] from rfl, addF'_nil])
  have HSR : Hid (∀ i, addF' F by1 (keysK E tl (i + 1)) = addF' (addF' F by1 (keysK E tl i)) by1 (rowK (E i) tl)) := Lib.hid fun i => by rw [keysK_succ, addF'_add]
  have HCB : Hid (∀ i j s, i ≤ NR → -200000 ≤ addF' (addF' F by1 (keysK E tl i)) by1 ((rowK (E i) tl).take j) s ∧ addF' (addF' F by1 (keysK E tl i)) by1 ((rowK (E i) tl).take j) s ≤ 200000) := Lib.hid fun i j s hi => by
    rw [addF'_add]
    unfold addF'
    have h1 := List.count_le_length (a := s) (l := keysK E tl i ++ (rowK (E i) tl).take j)
    rw [List.length_append, keysK_len, List.length_take] at h1
    have h2 : i * tl.length ≤ 8192 * 4 := Nat.mul_le_mul (by omega) htl
    have h3 := hF s
    have h4 : (rowK (E i) tl).length = tl.length := by simp [rowK]
    rcases hby with rfl | rfl <;> omega
  have HRS : Hid (∀ i j, j < tl.length → ∀ G : Key → Int, (fun t => if t = txtT ((tl.getD j []).map (valE (E i))) then addF' G by1 ((rowK (E i) tl).take j) (txtT ((tl.getD j []).map (valE (E i)))) + by1 else addF' G by1 ((rowK (E i) tl).take j) t) = addF' G by1 ((rowK (E i) tl).take (j + 1))) := Lib.hid fun i j hj G => by
    rw [rowK_snoc _ _ _ hj]; exact addF'_snoc G by1 _ _
  have HRA : Hid (∀ i, (rowK (E i) tl).take tl.length = rowK (E i) tl) := Lib.hid fun i => by rw [List.take_of_length_le (by simp [rowK])]
  obtain ⟨nt, hnt⟩ : ∃ nt, nt = tl.length := ⟨_, rfl⟩
  rw [← hnt] at HTP HOK HRS HRA htl ⊢
  clear hM hP hQr hrow hT hok hnt hF
  obtain ⟨bm, hbm⟩ : ∃ bm, bm = W0.heap.size := ⟨_, rfl⟩
  have HBM := Lib.hid hbm
  rw [← hbm]
  have HQL : Hid (Qr < bm) := by rw [hbm]; exact Lib.hid HQR.out.1
  clear hbm
  have HNM : Hid (∀ i, i ≤ NR → i * nt ≤ 8192 * 4) := Lib.hid fun i hi => Nat.mul_le_mul (by omega) htl
  have HQR0 : Hid (∀ wq, On W0 wq → wq.cell? ⟨Qr, 0, none⟩ = some (.slice (some ⟨g, 0, none⟩) NR cap)) := Lib.hid fun wq h => (HQR.out.on h).2.1 0 _ rfl
  go_enter Tryd.func92, Tryd.ntmps92
  have q0 := HQR0.out w HM.out.1
  go_wp2_with fail
  clear q0
  go_loopw [12] (fun vi wr => ∃ i : Nat, i ≤ NR ∧ vi = .int .i64 (i : Int) ∧ Hid (MX W0 wr (addF' F by1 (keysK E tl i)) (N + i * nt))) (fun vi _ => NR - (RowKit.intOf vi).toNat)
  case atStart => exact ⟨0, Nat.zero_le _, rfl, Lib.hid (by rw [HZ.out, Nat.zero_mul]; exact HM.out)⟩
  case round =>
    rename World => wr
    obtain ⟨i, hi, rfl, HMR⟩ := hrel
    by_cases hlt : i < NR
    · have hlt' : (i : Int) < (NR : Int) := by omega
      obtain ⟨hce, hen⟩ := HROW.out i hlt
      obtain ⟨c0, c1, c2, c3, c4, c5, c6⟩ := hce wr HMR.out.1
      have HEN := Lib.hid hen
      have HOKi : Hid (∀ j, j < nt → (tl.getD j []).length ≤ 4 ∧ (∀ v ∈ tl.getD j [], inE (E i) v) ∧ (∀ v ∈ tl.getD j [], valE (E i) v < 18446744073709551616) ∧ (txtT ((tl.getD j []).map (valE (E i)))).length ≤ 84) := Lib.hid fun j hj => ⟨(HOK.out j hj).1, fun v hv => ((HOK.out j hj).2 i hlt v hv).1, fun v hv => ((HOK.out j hj).2 i hlt v hv).2, okTup_len (HOK.out j hj) hlt⟩
      have HSRi := Lib.hid (HSR.out i)
      have HCBi := Lib.hid (fun j s => HCB.out i j s hi)
      have HRSi := Lib.hid (HRS.out i)
      have HRAi := Lib.hid (HRA.out i)
      have hnm := HNM.out i hi
      clear hce hen
      obtain ⟨V, hV⟩ : ∃ V, V = evs i := ⟨_, rfl⟩
      rw [← hV] at c0 c1 c2 c3 c4 c5 c6 HEN
      clear hV
      obtain ⟨v1, v2, v3, v4, v5, v6, v7⟩ := V
      obtain ⟨e1, y1, h1⟩ := HEN.out.1.shape
      obtain ⟨e2, y2, h2⟩ := HEN.out.2.1.shape
      obtain ⟨e3, y3, h3⟩ := HEN.out.2.2.1.shape
      obtain ⟨e4, y4, h4⟩ := HEN.out.2.2.2.1.shape
      obtain ⟨e5, y5, h5⟩ := HEN.out.2.2.2.2.1.shape
      obtain ⟨e6, y6, h6⟩ := HEN.out.2.2.2.2.2.1.shape
      obtain ⟨e7, y7, h7⟩ := HEN.out.2.2.2.2.2.2.shape
      simp only at h1 h2 h3 h4 h5 h6 h7 c0 c1 c2 c3 c4 c5 c6
      subst h1 h2 h3 h4 h5 h6 h7
      obtain ⟨G, hG⟩ : ∃ G, G = addF' F by1 (keysK E tl i) := ⟨_, rfl⟩
      rw [← hG] at HMR HSRi HCBi
      clear hG
      generalize hEi : E i = Ei at *
      clear hEi
      generalize (Ei.l1).length = n1 at *
      generalize (Ei.l2).length = n2 at *
      generalize (Ei.l3).length = n3 at *
      generalize (Ei.l4).length = n4 at *
      generalize (Ei.l5).length = n5 at *
      generalize (Ei.l6).length = n6 at *
      generalize (Ei.l7).length = n7 at *
      obtain ⟨V, hV⟩ : ∃ V : Ev, V = ⟨.slice e1 n1 y1, .slice e2 n2 y2, .slice e3 n3 y3, .slice e4 n4 y4, .slice e5 n5 y5, .slice e6 n6 y6, .slice e7 n7 y7⟩ := ⟨_, rfl⟩
      have HVV := Lib.hid hV
      rw [← hV] at HEN
      clear hV
      go_upto_region 3 with fail
      obtain ⟨u, hu⟩ : ∃ u, u = wr.alloc (.cells #[.slice e1 n1 y1, .slice e2 n2 y2, .slice e3 n3 y3, .slice e4 n4 y4, .slice e5 n5 y5, .slice e6 n6 y6, .slice e7 n7 y7] 61) := ⟨_, rfl⟩
      obtain ⟨X, hX⟩ : ∃ X, X = wr.heap.size := ⟨_, rfl⟩
      rw [← hu, ← hX]
      have hOu : On wr u := by rw [hu]; exact (On.refl HMR.out.1.tab).alloc _
      have HBX : Hid (VB X u (evL V)) := by rw [hu, hX, HVV.out]; exact Lib.hid (vb_new wr _ _)
      have HMU : Hid (MX W0 u (addF' G by1 ((rowK Ei tl).take 0)) (N + i * nt + 0)) := Lib.hid (by rw [List.take_zero, addF'_nil]; exact HMR.out.on hOu)
      have hXb : X ≠ bm := by
        obtain ⟨_, hv, _⟩ := HMR.out
        have h1 := hv.1; have h2 := HBM.out; omega
      have hXc : X ≠ bm + 1 := by
        obtain ⟨_, hv, _⟩ := HMR.out
        have h1 := hv.1; have h2 := HBM.out; omega
      clear hu hX hOu c0 c1 c2 c3 c4 c5 c6
      go_wp2_with fail
      go_loopw [18] (fun vj wq => ∃ j : Nat, j ≤ nt ∧ vj = .int .i64 (j : Int) ∧ Hid (MX W0 wq (addF' G by1 ((rowK Ei tl).take j)) (N + i * nt + j)) ∧ Hid (VB X wq (evL V))) (fun vj _ => nt - (RowKit.intOf vj).toNat)
      case atStart => exact ⟨0, Nat.zero_le _, rfl, HMU, HBX⟩
      case round =>
        rename World => wq
        obtain ⟨j, hj, rfl, HMQ, HBQ⟩ := hrel
        clear HMU HBX HMR
        by_cases hjt : j < nt
        · have hjt' : (j : Int) < (nt : Int) := by omega
          obtain ⟨b, off, ua, uc, rfl, ht0, hvr⟩ := HTP.out j hjt
          have t0 := ht0 wq HMQ.out.1
          obtain ⟨ht4, hin, huu, hkl⟩ := HOKi.out j hjt
          have HSj := Lib.hid (HRSi.out j hjt G)
          have HVR := Lib.hid hvr
          have HIN := Lib.hid hin; have HUU := Lib.hid huu
          have hcb := HCBi.out j (txtT ((tl.getD j []).map (valE Ei)))
          clear ht0 hvr hin huu
          obtain ⟨FX, hFX⟩ : ∃ FX, FX = addF' G by1 ((rowK Ei tl).take j) := ⟨_, rfl⟩
          rw [← hFX] at HMQ HSj hcb
          clear hFX
          obtain ⟨t, htt⟩ : ∃ t, t = tl.getD j [] := ⟨_, rfl⟩
          rw [← htt] at t0 ht4 HIN HUU hkl HSj HVR hcb
          clear htt
          obtain ⟨tn, htn⟩ : ∃ tn, tn = t.length := ⟨_, rfl⟩
          rw [← htn] at t0 HVR ht4
          have HTN := Lib.hid htn
          clear htn
          go_upto_region 6 with fail
          obtain ⟨uD, huD⟩ : ∃ uD, uD = wq.drew := ⟨_, rfl⟩
          have hOD : On wq uD := by rw [huD]; exact (On.refl HMQ.out.1.tab).drew
          have HMD := Lib.hid (HMQ.out.on hOD)
          have HBD := Lib.hid (HBQ.out.on hOD)
          have hSd : On uD uD := On.refl HMD.out.1.tab
          have HXO : Hid (On W0 W0) := Lib.hid ⟨HMD.out.1.1, Below.refl _ _⟩
          have HSD : Hid (∀ w', On uD w' → w'.cell? ⟨bm + 1, 0, none⟩ = some (.map (some bm)) ∧ w'.cell? ⟨X, 0, none⟩ = some V.v1 ∧ w'.cell? ⟨X, 1, none⟩ = some V.v2 ∧ w'.cell? ⟨X, 2, none⟩ = some V.v3 ∧ w'.cell? ⟨X, 3, none⟩ = some V.v4 ∧ w'.cell? ⟨X, 4, none⟩ = some V.v5 ∧ w'.cell? ⟨X, 5, none⟩ = some V.v6 ∧ w'.cell? ⟨X, 6, none⟩ = some V.v7) := Lib.hid fun w' h => by
            rw [HBM.out]
            exact ⟨(HMD.out.2.1.on h).2.1 0 _ rfl, (HBD.out.on h).2.1 0 _ rfl, (HBD.out.on h).2.1 1 _ rfl, (HBD.out.on h).2.1 2 _ rfl, (HBD.out.on h).2.1 3 _ rfl, (HBD.out.on h).2.1 4 _ rfl, (HBD.out.on h).2.1 5 _ rfl, (HBD.out.on h).2.1 6 _ rfl⟩
          have HTX : Hid (Calls Tryd.prog 93 #[.slice ua tn uc, evA V] uD fun e w' => e = .returned (.string ⟨(txtT (t.map (valE Ei))).toArray⟩) ∧ On uD w') := by
            rw [HTN.out]
            exact Lib.hid (text_any t ua uc V Ei uD HMD.out.1.tab (HP.out.on HMD.out.1) (by rw [← HTN.out]; exact HVR.out.on HMD.out.1) (HEN.out.on HMD.out.1) HIN.out HUU.out (by rw [← HTN.out]; omega))
          have hkx : (txtT (t.map (valE Ei))).length ≤ 1000000 := by omega
          generalize txtT (t.map (valE Ei)) = kx at *
          clear hkl hOD t0
          have hby2 : -1 ≤ by1 ∧ by1 ≤ 1 := by omega
          refine region_head_tail (S := fun wx => On uD wx) 7 (by kernel_rfl) (by kernel_rfl) ?_
          rw [← huD]
          clear huD
          refine HeadG.take (i := 0) (v := .map (some bm)) rfl (by kernel_rfl) (by kernel_rfl) (by kernel_rfl) (by kernel_rfl) (by kernel_rfl) (by kernel_rfl) (by kernel_rfl) (fun _ _ _ h => h) (Or.inl ⟨by rfl, ?hyp0⟩) hSd ?hrp0
          case hyp0 => (intro w' hSw; obtain ⟨z0, z1, z2, z3, z4, z5, z6, z7⟩ := HSD.out w' hSw; go_simp; try with_reducible rfl)
          try simp only [Act.put, List.setIfInBounds_toArray, List.set_cons_zero, List.set_cons_succ, List.getElem_toArray, List.getElem_cons_zero, List.getElem_cons_succ]
          refine HeadG.take (i := 1) (v := ?hv1) rfl (by kernel_rfl) (by kernel_rfl) (by kernel_rfl) (by kernel_rfl) (by kernel_rfl) (by kernel_rfl) (by kernel_rfl) (fun _ _ _ h => h) (Or.inl ⟨by rfl, ?hyp1⟩) hSd ?hrp1
          case hyp1 => (intro w' hSw; go_simp; try with_reducible rfl)
          try simp only [Act.put, List.setIfInBounds_toArray, List.set_cons_zero, List.set_cons_succ, List.getElem_toArray, List.getElem_cons_zero, List.getElem_cons_succ]
          refine HeadG.take (i := 2) (v := evA V) rfl (by kernel_rfl) (by kernel_rfl) (by kernel_rfl) (by kernel_rfl) (by kernel_rfl) (by kernel_rfl) (by kernel_rfl) (fun _ _ _ h => h) (Or.inl ⟨by rfl, ?hyp2⟩) hSd ?hrp2
          case hyp2 => (intro w' hSw; obtain ⟨z0, z1, z2, z3, z4, z5, z6, z7⟩ := HSD.out w' hSw; go_simp; try with_reducible rfl)
          try simp only [Act.put, List.setIfInBounds_toArray, List.set_cons_zero, List.set_cons_succ, List.getElem_toArray, List.getElem_cons_zero, List.getElem_cons_succ]
          refine HeadG.take (i := 5) (v := ?hv5) rfl (by kernel_rfl) (by kernel_rfl) (by kernel_rfl) (by kernel_rfl) (by kernel_rfl) (by kernel_rfl) (by kernel_rfl) (fun _ _ _ h => h) (Or.inl ⟨by rfl, ?hyp5⟩) hSd ?hrp5
          case hyp5 => (intro w' hSw; go_simp; try with_reducible rfl)
          try simp only [Act.put, List.setIfInBounds_toArray, List.set_cons_zero, List.set_cons_succ, List.getElem_toArray, List.getElem_cons_zero, List.getElem_cons_succ]
          refine HeadG.one (i := 3) rfl (by kernel_rfl) (by kernel_rfl) (fun K9 hK9 => ?_)
          go_simp
          go_at_call 93
          with_reducible refine HTX.out.mono ?_
          rintro e wt ⟨rfl, hOt⟩
          refine hK9.out _ _ hOt ?_
          clear hK9 K9
          try simp only [Act.put, List.setIfInBounds_toArray, List.set_cons_zero, List.set_cons_succ, List.getElem_toArray, List.getElem_cons_zero, List.getElem_cons_succ]
          obtain ⟨hlook, wm, hst, hMw, hVm⟩ := (HMD.out.on hOt).step (by omega) kx hkx (FX kx + by1) (by omega)
          rw [← HBM.out] at hlook hst
          have HLOOK := Lib.hid hlook
          have HST := Lib.hid hst
          have HVX := Lib.hid (hVm X _ (HBD.out.on hOt) (by rw [← HBM.out]; exact hXb))
          have HMW := Lib.hid hMw
          clear hlook hst hMw hVm
          refine HeadG.one (i := 4) rfl (by kernel_rfl) (by kernel_rfl) (fun K9 hK9 => ?_)
          have h1 := HLOOK.out
          go_simp
          refine hK9.out _ _ hOt ?_
          clear hK9 K9 h1
          try simp only [Act.put, List.setIfInBounds_toArray, List.set_cons_zero, List.set_cons_succ, List.getElem_toArray, List.getElem_cons_zero, List.getElem_cons_succ]
          have HWRP : Hid (IntKind.i64.wrap (FX kx + by1) = FX kx + by1) := Lib.hid (IntWalk.i64_in _ (by omega))
          refine HeadG.one (i := 6) rfl (by kernel_rfl) (by kernel_rfl) (fun K9 hK9 => ?_)
          have h1 := HWRP.out
          go_simp
          try rw [h1]
          refine hK9.out _ _ hOt ?_
          clear hK9 K9 h1
          try simp only [Act.put, List.setIfInBounds_toArray, List.set_cons_zero, List.set_cons_succ, List.getElem_toArray, List.getElem_cons_zero, List.getElem_cons_succ]
          refine HeadG.last (i := 7) rfl (by kernel_rfl) (by kernel_rfl) (by kernel_rfl) (fun K9 hK9 => ?_)
          have h1 := HST.out
          go_simp
          refine hK9.out _ _ ?_
          clear hK9 K9 h1
          try simp only [Act.put, List.setIfInBounds_toArray, List.set_cons_zero, List.set_cons_succ, List.getElem_toArray, List.getElem_cons_zero, List.getElem_cons_succ]
          have HM9 : Hid (MX W0 wm (addF' G by1 ((rowK Ei tl).take (j + 1))) (N + i * nt + (j + 1))) := by rw [← HSj.out]; exact HMW
          clear HLOOK HST HMW
          go_wp2
          go_roundw
          case rel => exact ⟨j + 1, by omega, by simp, HM9, HVX⟩
          case measure => simp [RowKit.intOf]; omega
        · obtain rfl : nt = j := by omega
          have HM9 : Hid (MX W0 wq (addF' F by1 (keysK E tl (i + 1))) (N + (i + 1) * nt)) := by rw [HSRi.out, ← HRAi.out, show N + (i + 1) * nt = N + i * nt + nt by rw [Nat.add_mul, Nat.one_mul]; omega]; exact HMQ
          go_wp2
          go_roundw
          case rel => exact ⟨i + 1, by omega, by simp, HM9⟩
          case measure => simp [RowKit.intOf]; omega
    · obtain rfl : NR = i := by omega
      go_wp2
      go_end0
      exact ⟨rfl, HMR.out⟩
theorem keyOf_str_inv {key : Value} {kl : Lit} (h : keyOf Tryd.prog 9 key = some kl) : ∃ x : ByteArray, key = .string x ∧ kl = .string x.data.toList := by
  rw [keyOf_string Tryd.underlying9] at h
  unfold mapKey at h
  cases key <;> simp at h
  exact ⟨_, rfl, h.2.symm⟩
/-- What permHolds answers. -/
def PmPost (l m : List Key) (w : World) (e : Ending) (w' : World) : Prop := (∃ b : Bool, e = .returned (.bool b) ∧ (b = true ↔ ∀ s, l.count s = m.count s)) ∧ On w w'
theorem PmPost.no {l m : List Key} {w w' : World} (h : ¬ ∀ s, l.count s = m.count s) (k : On w w') : PmPost l m w (.returned (.bool false)) w' := ⟨⟨false, rfl, ⟨fun h => (by cases h), fun e => absurd e h⟩⟩, k⟩
theorem PmPost.yes {l m : List Key} {w w' : World} (h : ∀ s, l.count s = m.count s) (k : On w w') : PmPost l m w (.returned (.bool true)) w' := ⟨⟨true, rfl, ⟨fun _ => h, fun _ => rfl⟩⟩, k⟩
set_option maxHeartbeats 4000000 in
set_option maxRecDepth 100000 in
theorem permholds_any (lt rt : List (List Vr)) (la ra : Option Addr) (lc rc : Nat) (g NR cap : Nat) (evs : Nat → Ev) (E : Nat → En) (w : World) (hTt : Tab w) (hP : Pwz w) (hL : TupL w (.slice la lt.length lc) lt) (hR : TupL w (.slice ra rt.length rc) rt)
    (hrow : RowsR w g evs E NR) (hokl : ∀ t ∈ lt, okTup E NR t) (hokr : ∀ t ∈ rt, okTup E NR t) (hll : lt.length ≤ 4) (hrl : rt.length ≤ 4) (hNR : NR ≤ 8192) :
    Calls Tryd.prog 43 #[.agg #[.slice la lt.length lc, .slice ra rt.length rc], .slice (some ⟨g, 0, none⟩) NR cap] w (PmPost (keysK E lt NR) (keysK E rt NR) w) := by
  have hmm := @run_makeMap Tryd.prog
  obtain ⟨W0, hW0⟩ : ∃ W0, W0 = (w.alloc (.cells #[.slice la lt.length lc, .slice ra rt.length rc] 56)).alloc (.cells #[.slice (some ⟨g, 0, none⟩) NR cap] 86) := ⟨_, rfl⟩
  have hA1 := (On.refl hTt).alloc (.cells #[.slice la lt.length lc, .slice ra rt.length rc] 56)
  have hA2 := (On.refl hA1.tab).alloc (.cells #[.slice (some ⟨g, 0, none⟩) NR cap] 86)
  have hO0 : On w W0 := by rw [hW0]; exact hA1.trans hA2
  obtain ⟨Q, hQ⟩ : ∃ Q, Q = w.heap.size := ⟨_, rfl⟩
  have HBP : Hid (VB Q W0 [.slice la lt.length lc, .slice ra rt.length rc]) := by rw [hW0, hQ]; exact Lib.hid ((vb_new w _ _).on hA2)
  have HBR : Hid (VB (Q + 1) W0 [.slice (some ⟨g, 0, none⟩) NR cap]) := by
    have h := vb_new (w.alloc (.cells #[.slice la lt.length lc, .slice ra rt.length rc] 56)) #[.slice (some ⟨g, 0, none⟩) NR cap] 86
    rw [World.size_alloc] at h
    rw [hW0, hQ]; exact Lib.hid h
  have hrow0 : RowsR W0 g evs E NR := fun k hk => ⟨fun wq h => (hrow k hk).1 wq (hO0.trans h), (hrow k hk).2.on hO0⟩
  have hM0 : MX W0 ((W0.alloc (.map #[] 0)).alloc (.cells #[.map (some W0.heap.size)] 133)) (fun _ => 0) 0 := by
    have k1 : On W0 (W0.alloc (.map #[] 0)) := (On.refl hO0.tab).alloc _
    have k2 := (On.refl k1.tab).alloc (.cells #[.map (some W0.heap.size)] 133)
    have hv := vb_new (W0.alloc (.map #[] 0)) #[.map (some W0.heap.size)] 133
    rw [World.size_alloc] at hv
    exact ⟨k1.trans k2, hv, .map [], (World.ownsMap_made W0 _ _ _).alloc _, fun s => by simp [DataW.atKey]⟩
  have HM0 := Lib.hid hM0
  have HCL : Hid (∀ wq F N, MX W0 wq F N → N ≤ 100000 → (∀ s, -100000 ≤ F s ∧ F s ≤ 100000) → Calls Tryd.prog 92 #[.slice la lt.length lc, .int .i64 1, .pointer (some ⟨Q + 1, 0, none⟩), .pointer (some ⟨W0.heap.size + 1, 0, none⟩)] wq fun e w' => e = .returned (.tuple #[]) ∧ MX W0 w' (addF' F 1 (keysK E lt NR)) (N + NR * lt.length)) := Lib.hid fun wq F N hM hN hF =>
    count_any W0 (Q + 1) g NR cap evs E lt la lc 1 F N wq (hP.on hO0) hM (hL.on hO0) hrow0 HBR.out hokl hll hNR hN (.inl rfl) hF
  have HCR : Hid (∀ wq F N, MX W0 wq F N → N ≤ 100000 → (∀ s, -100000 ≤ F s ∧ F s ≤ 100000) → Calls Tryd.prog 92 #[.slice ra rt.length rc, .int .i64 (-1), .pointer (some ⟨Q + 1, 0, none⟩), .pointer (some ⟨W0.heap.size + 1, 0, none⟩)] wq fun e w' => e = .returned (.tuple #[]) ∧ MX W0 w' (addF' F (-1) (keysK E rt NR)) (N + NR * rt.length)) := Lib.hid fun wq F N hM hN hF =>
    count_any W0 (Q + 1) g NR cap evs E rt ra rc (-1) F N wq (hP.on hO0) hM (hR.on hO0) hrow0 HBR.out hokr hrl hNR hN (.inr rfl) hF
  have HPB : Hid (∀ wq, On W0 wq → wq.cell? ⟨Q, 0, none⟩ = some (.slice la lt.length lc) ∧ wq.cell? ⟨Q, 1, none⟩ = some (.slice ra rt.length rc)) := Lib.hid fun wq h => ⟨(HBP.out.on h).2.1 0 _ rfl, (HBP.out.on h).2.1 1 _ rfl⟩
  have HNL : Hid (NR * lt.length ≤ 8192 * 4) := Lib.hid (Nat.mul_le_mul hNR hll)
  have HKL : Hid ((keysK E lt NR).length ≤ 8192 * 4) := by rw [keysK_len]; exact HNL
  have HOK : Hid (On W0 W0) := Lib.hid (On.refl hO0.tab)
  generalize keysK E lt NR = LL at *
  generalize keysK E rt NR = RR at *
  generalize NR * lt.length = c1 at *
  generalize NR * rt.length = c2 at *
  generalize hn1 : lt.length = n1 at *
  generalize hn2 : rt.length = n2 at *
  have HW0 := Lib.hid hW0; have HQ := Lib.hid hQ; have HO0 := Lib.hid hO0
  clear hTt hP hL hR hrow hokl hokr hrow0 hM0 hA1 hA2 hW0 hQ hO0 HBP HBR hn1 hn2
  go_enter Tryd.func43, Tryd.ntmps43
  go_upto_region 1 with fail
  rw [← HW0.out, ← HQ.out]
  go_upto_region 3 with fail
  obtain ⟨W2, hW2⟩ : ∃ W2, W2 = (W0.alloc (.map #[] 0)).alloc (.cells #[.map (some W0.heap.size)] 133) := ⟨_, rfl⟩
  rw [← hW2] at HM0
  rw [← hW2]
  clear hW2 hmm
  obtain ⟨p0, p1⟩ := HPB.out W2 HM0.out.1
  have HC1 := Lib.hid (HCL.out W2 _ _ HM0.out (by omega) (fun s => by omega))
  go_upto_region 4 with (go_at_call 92; (with_reducible refine HC1.out.mono ?_); rintro e w3 ⟨rfl, hM3⟩; refine Hid.out ?_)
  refine Lib.hid ?_
  have HM3 := Lib.hid hM3
  clear hM3 p0 p1 HC1 HM0
  obtain ⟨p0, p1⟩ := HPB.out w3 HM3.out.1
  have HC2 := Lib.hid (HCR.out w3 _ _ HM3.out (by have := HNL.out; omega) (fun s => by
    simp only [addF']
    have h1 := List.count_le_length (a := s) (l := LL)
    have h2 := HKL.out
    omega))
  go_upto_region 5 with (go_at_call 92; (with_reducible refine HC2.out.mono ?_); rintro e w4 ⟨rfl, hM4⟩; refine Hid.out ?_)
  refine Lib.hid ?_
  obtain ⟨hO4, hV4, D, hown, hD⟩ := hM4
  have q0 := hV4.2.1 0 _ rfl
  have HFS : Hid (∀ s : Key, D.atKey (.string s) (.lit (.int .i64 0)) = .lit (.int .i64 (((LL.count s : Nat) : Int) - ((RR.count s : Nat) : Int)))) := Lib.hid fun s => by
    rw [hD s]; simp only [addF']; congr 2; omega
  have HO4 := Lib.hid hO4
  obtain ⟨r, hr⟩ : ∃ r, r = w4.heap.size := ⟨_, rfl⟩
  obtain ⟨bm, hbm⟩ : ∃ bm, bm = W0.heap.size := ⟨_, rfl⟩
  have HRL : Hid (W0.heap.size ≤ r) := by rw [hr]; exact Lib.hid hO4.size
  rw [← hbm] at hown q0
  rw [← hbm]
  clear hO4 hV4 hD HC2 p0 p1 HM3 HCL HCR hbm
  generalize 0 + c1 + c2 = n at *
  have HOWN := Lib.hid hown
  clear hown
  have HR9 := Lib.hid hr
  clear hr
  go_wp2_with (first
    | (at_range; refine wpList_range_own _ rfl _ 133 rfl 9 3 lawSz Tryd.underlying133 _ bm n D rfl HOWN.out ?_; intro w0 hrg0 hg0 hs0)
    | fail)
  go_frame
  rw [← HR9.out] at hrg0
  rw [← HR9.out]
  have HRG := Lib.hid hrg0
  have HON : Hid (On W0 w0) := Lib.hid (HO4.out.gbv hg0 (fun r hr => by cases hr))
  have HHL : Hid (∀ s : Key, Maps.has D (.string s) = false → Maps.has D (.string s) = false ∨ LL.count s = RR.count s) := Lib.hid fun s h => .inl h
  clear hrg0 hg0 hs0 q0
  go_loopw [21] (fun _ wr => ∃ (left : Lit → Bool) (cnt : Nat), Hid (wr.ranges Tryd.prog 9 (plainElem Tryd.prog 3) bm r n D left cnt) ∧ Hid (On W0 wr) ∧ Hid (∀ s : Key, left (.string s) = false → Maps.has D (.string s) = false ∨ LL.count s = RR.count s)) (fun _ wr => wr.rangeLeft bm r)
  case atStart => exact ⟨_, _, HRG, HON, HHL⟩
  case round =>
    rename World => wr
    obtain ⟨left, cnt, HG, HW, HL⟩ := hrel
    go_wp2_with (first
      | (at_next; refine wpList_next_ranges _ rfl _ rfl 9 lawSz (plainElem Tryd.prog 3) Value.string (Value.int .i64) (fun key kl hkey => by obtain ⟨x, rfl, _⟩ := keyOf_str_inv hkey; exact ⟨x, rfl⟩) (fun v y hv => by obtain ⟨c, rfl, _⟩ := plainElem_int_inv Tryd.underlying3 hv; exact ⟨c, rfl⟩) bm r n _ _ _ rfl HG.out ?_ ?_)
      | fail)
    · intro _ hl0
      have HF : Hid (∀ s, LL.count s = RR.count s) := Lib.hid fun s => by
        rcases HL.out s (hl0 _) with h | h
        · have h1 := HFS.out s
          rw [Maps.atKey_of_not_has h] at h1
          simp only [DataW.lit.injEq, Lit.int.injEq, true_and] at h1
          omega
        · exact h
      clear hl0
      go_wp2
      go_ret
      exact PmPost.yes HF.out (HO0.out.trans HW.out)
    · intro x c kl y ys w1 cnt1 hkey hlk hv hat hrg1 hlt hg1 hs1 hen
      obtain ⟨x', ex, rfl⟩ := keyOf_str_inv hkey
      cases ex
      obtain ⟨c', ec, hy9, hwc⟩ := plainElem_int_inv Tryd.underlying3 hv
      cases ec
      simp only [Prod.mk.injEq] at hy9
      obtain ⟨rfl, rfl⟩ := hy9
      have hcF : c = ((LL.count x.data.toList : Nat) : Int) - ((RR.count x.data.toList : Nat) : Int) := by
        have h1 := HFS.out x.data.toList
        rw [hat] at h1
        simpa using h1
      have HRG1 := Lib.hid hrg1
      have HLT := Lib.hid hlt
      have HON1 : Hid (On W0 w1) := Lib.hid (HW.out.gbv hg1 (fun r' hr' => by simp only [Option.some.injEq] at hr'; subst hr'; exact HRL.out))
      clear hkey hlk hv hat hrg1 hlt hg1 hs1 hwc
      by_cases hc0 : c = 0
      · have HL1 : Hid (∀ s : Key, (left (.string s) && !(Lit.string s).sameKey (.string x.data.toList)) = false → Maps.has D (.string s) = false ∨ LL.count s = RR.count s) := Lib.hid fun s h => by
          rw [Bool.and_eq_false_iff] at h
          rcases h with h | h
          · exact HL.out s h
          · have h2 : Lit.string s = .string x.data.toList := WideAt.sameKey_eq (by simpa using h)
            simp only [Lit.string.injEq] at h2
            right; rw [h2]; omega
        subst hc0
        clear hcF
        go_wp2_with fail
        go_roundw
        case rel => exact ⟨_, cnt1, HRG1, HON1, HL1⟩
        case measure => rw [HRG1.out.left_eq, HG.out.left_eq]; exact HLT.out
      · have HF : Hid (¬ ∀ s, LL.count s = RR.count s) := Lib.hid fun h => hc0 (by rw [hcF, h]; omega)
        have hb : (c != 0) = true := by simpa using hc0
        clear hcF hc0
        go_wp2_with fail
        go_ret
        exact PmPost.no HF.out (HO0.out.trans HON1.out)
end Go.Proofs.YtnanjacllmdenaaDoor

/- Package system: lookupHolds: what the call returns. -/
namespace Go.Proofs.YtnanjacllmdenaaDoor
open Go.RowKit Go.Lib
set_option linter.unusedVariables false

theorem zeroUz (w : World) : (zeroValue 42).run Tryd.prog w = .ok (.int .u64 0) w := by kernel_rfl
/-- The map in the first block behind W0 holds F. -/
def MU (W0 w : World) (F : Key → Nat) (N : Nat) : Prop :=
  On W0 w ∧ (∀ s, F s ≤ 998244353) ∧ ∃ D : DataW Unit, w.ownsMap Tryd.prog 9 (plainElem Tryd.prog 42) W0.heap.size N D ∧ ∀ s : Key, D.atKey (.string s) (.lit (.int .u64 0)) = .lit (.int .u64 ((F s : Nat) : Int))
theorem MU.on {W0 w w' : World} {F : Key → Nat} {N : Nat} (h : MU W0 w F N) (k : On w w') : MU W0 w' F N := by
  obtain ⟨h1, h2, D, h3, h4⟩ := h
  exact ⟨h1.trans k, h2, D, h3.kept k.gbnz (by simp), h4⟩
theorem MU.look {W0 w : World} {F : Key → Nat} {N : Nat} (h : MU W0 w F N) (s : Key) (hs : s.length ≤ 1000000) :
    (Instr.lookup 136 (.map (some W0.heap.size)) (.string ⟨s.toArray⟩) false).run Tryd.prog w = .ok (.int .u64 ((F s : Nat) : Int)) w := by
  obtain ⟨h1, h2, D, h3, h4⟩ := h
  obtain ⟨c, hrun, hat, _⟩ := h3.lookup_int lawSz Tryd.underlying136 Tryd.underlying42 (zeroUz w) (keyOf_str s hs)
  have hc : c = ((F s : Nat) : Int) := by rw [h4 s] at hat; simpa using hat.symm
  rw [← hc]; exact hrun
theorem MU.step {W0 w : World} {F : Key → Nat} {N : Nat} (h : MU W0 w F N) (hN : N ≤ 1000000) (s : Key) (hs : s.length ≤ 1000000) (x : Nat) (hx : x ≤ 998244353) :
    ∃ w', (Instr.mapUpdate 136 (.map (some W0.heap.size)) (.string ⟨s.toArray⟩) (.int .u64 ((x : Nat) : Int))).run Tryd.prog w = .ok () w' ∧ MU W0 w' (fun t => if t = s then x else F t) (N + 1) ∧ ∀ B l, VB B w l → B ≠ W0.heap.size → VB B w' l := by
  obtain ⟨h1, h2, D, h3, h4⟩ := h
  have hwf : (Lit.int .u64 ((x : Nat) : Int)).wf = true := WalkArith.wf_u64 (by omega)
  obtain ⟨w', hst, hown, hg⟩ := h3.update lawSz Tryd.underlying136 (by unfold maxLen; omega) (keyOf_str s hs) (plainElem_int Tryd.underlying42 hwf)
  refine ⟨w', hst, ⟨⟨h1.1, h1.2.grown hg h1.2.size (fun r hr => by simp only [Option.some.injEq] at hr; omega)⟩, fun t => ?_, _, hown, fun t => ?_⟩, fun B l hb hne => hb.kept hg.size (hg.block _ hb.1 (by simp; exact hne))⟩
  · dsimp only; split
    · exact hx
    · exact h2 t
  · by_cases e : t = s
    · subst e
      simp only [if_true]; exact Maps.atKey_put_same (h3.isMap) (isKeyS t hs) _ _
    · simp only [if_neg e]; rw [Maps.atKey_put_other (by simpa using e), h4]
/-- What the map holds behind one row: a is used, b is listed m times. -/
def lkStep (f : Int) (a b : Key) (m : Nat) (F : Key → Nat) : Key → Nat :=
  let G : Key → Nat := fun t => if t = a then addF f (F a) 1 else F t
  fun t => if t = b then subF f (G b) m else G t
/-- .. behind the first n rows. -/
def lkF (f : Int) (E : Nat → En) (l : Lk) : Nat → Key → Nat
  | 0 => fun _ => 0
  | k + 1 => lkStep f (txtT (l.tu.map (valE (E k)))) (txtT (l.ta.map (valE (E k)))) (valE (E k) l.ct) (lkF f E l k)
/-- What lookupHolds answers. -/
def LkPost (F : Key → Nat) (w : World) (e : Ending) (w' : World) : Prop := (∃ b : Bool, e = .returned (.bool b) ∧ (b = true ↔ ∀ s, F s = 0)) ∧ On w w'
theorem LkPost.no {F : Key → Nat} {w w' : World} (h : ¬ ∀ s, F s = 0) (k : On w w') : LkPost F w (.returned (.bool false)) w' := ⟨⟨false, rfl, ⟨fun h => (by cases h), fun e => absurd e h⟩⟩, k⟩
theorem LkPost.yes {F : Key → Nat} {w w' : World} (h : ∀ s, F s = 0) (k : On w w') : LkPost F w (.returned (.bool true)) w' := ⟨⟨true, rfl, ⟨fun _ => h, fun _ => rfl⟩⟩, k⟩
set_option maxHeartbeats 4000000 in
set_option maxRecDepth 100000 in
theorem lookupholds_any (f : Int) (l : Lk) (ua va : Option Addr) (uc vc : Nat) (g NR cap : Nat) (evs : Nat → Ev) (E : Nat → En) (w : World) (hTt : Tab w) (hP : Pwz w) (hA : VRw w (.slice ua l.tu.length uc) l.tu) (hB : VRw w (.slice va l.ta.length vc) l.ta)
    (hrow : RowsR w g evs E NR) (hoka : okTup E NR l.tu) (hokb : okTup E NR l.ta) (hokc : okTup E NR [l.ct]) (hNR : NR ≤ 8192) :
    Calls Tryd.prog 44 #[.int .i64 f, .agg #[.slice ua l.tu.length uc, .slice va l.ta.length vc, .int .u8 l.ct.1, .int .i64 l.ct.2], .slice (some ⟨g, 0, none⟩) NR cap] w (LkPost (lkF f E l NR) w) := by
  have hmm := @run_makeMap Tryd.prog
  obtain ⟨W0, hW0⟩ : ∃ W0, W0 = w.alloc (.cells #[.slice ua l.tu.length uc, .slice va l.ta.length vc, .int .u8 l.ct.1, .int .i64 l.ct.2] 81) := ⟨_, rfl⟩
  have hO0 : On w W0 := by rw [hW0]; exact (On.refl hTt).alloc _
  obtain ⟨Q, hQ⟩ : ∃ Q, Q = w.heap.size := ⟨_, rfl⟩
  have HBL : Hid (VB Q W0 [.slice ua l.tu.length uc, .slice va l.ta.length vc, .int .u8 l.ct.1, .int .i64 l.ct.2]) := by rw [hW0, hQ]; exact Lib.hid (vb_new w _ _)
  have HROW : Hid (RowsR W0 g evs E NR) := Lib.hid fun k hk => ⟨fun wq h => (hrow k hk).1 wq (hO0.trans h), (hrow k hk).2.on hO0⟩
  have HM0 : Hid (MU W0 (W0.alloc (.map #[] 0)) (fun _ => 0) 0) := Lib.hid ⟨(On.refl hO0.tab).alloc _, fun _ => Nat.zero_le _, .map [], World.ownsMap_made W0 _ _ _, fun s => by simp [DataW.atKey]⟩
  have HP := Lib.hid (hP.on hO0)
  have HVA := Lib.hid (hA.on hO0); have HVB := Lib.hid (hB.on hO0)
  have HOA := Lib.hid hoka; have HOB := Lib.hid hokb; have HOC := Lib.hid hokc
  have HLC : Hid (∀ wq, On W0 wq → wq.cell? ⟨Q, 0, none⟩ = some (.slice ua l.tu.length uc) ∧ wq.cell? ⟨Q, 1, none⟩ = some (.slice va l.ta.length vc) ∧ wq.cell? ⟨Q, 2, none⟩ = some (.int .u8 l.ct.1) ∧ wq.cell? ⟨Q, 3, none⟩ = some (.int .i64 l.ct.2)) := Lib.hid fun wq h => ⟨(HBL.out.on h).2.1 0 _ rfl, (HBL.out.on h).2.1 1 _ rfl, (HBL.out.on h).2.1 2 _ rfl, (HBL.out.on h).2.1 3 _ rfl⟩
  have HOK : Hid (On W0 W0) := Lib.hid (On.refl hO0.tab)
  have HZ : Hid (lkF f E l 0 = fun _ => 0) := Lib.hid rfl
  have HS : Hid (∀ k, lkF f E l (k + 1) = lkStep f (txtT (l.tu.map (valE (E k)))) (txtT (l.ta.map (valE (E k)))) (valE (E k) l.ct) (lkF f E l k)) := Lib.hid fun k => rfl
  have HW0 := Lib.hid hW0; have HQ := Lib.hid hQ; have HO0 := Lib.hid hO0
  obtain ⟨FF, hFF⟩ : ∃ FF, FF = lkF f E l := ⟨_, rfl⟩
  rw [← hFF] at HZ HS ⊢
  clear hFF
  obtain ⟨tu, ta, ct⟩ := l
  obtain ⟨kk, ki⟩ := ct
  simp only at HLC HVA HVB HOA HOB HOC HS HW0 ⊢
  obtain ⟨tn, htn⟩ : ∃ tn, tn = tu.length := ⟨_, rfl⟩
  obtain ⟨sn, hsn⟩ : ∃ sn, sn = ta.length := ⟨_, rfl⟩
  rw [← htn] at HLC HVA HW0 ⊢
  rw [← hsn] at HLC HVB HW0 ⊢
  have HTN := Lib.hid htn; have HSN := Lib.hid hsn
  clear hTt hP hA hB hrow hoka hokb hokc hW0 hQ hO0 HBL htn hsn
  go_enter Tryd.func44, Tryd.ntmps44
  go_upto_region 1 with fail
  rw [← HW0.out, ← HQ.out]
  go_upto_region 2 with fail
  obtain ⟨W2, hW2⟩ : ∃ W2, W2 = W0.alloc (.map #[] 0) := ⟨_, rfl⟩
  rw [← hW2] at HM0
  rw [← hW2]
  clear hW2 hmm
  obtain ⟨bm, hbm⟩ : ∃ bm, bm = W0.heap.size := ⟨_, rfl⟩
  have HBM := Lib.hid hbm
  rw [← hbm]
  clear hbm
  go_wp2_with fail
  go_loopw [17] (fun vi wr => ∃ i : Nat, i ≤ NR ∧ vi = .int .i64 (i : Int) ∧ Hid (MU W0 wr (FF i) (i * 2))) (fun vi _ => NR - (RowKit.intOf vi).toNat)
  case atStart => exact ⟨0, Nat.zero_le _, rfl, Lib.hid (by rw [HZ.out]; exact HM0.out)⟩
  case round =>
    rename World => wr
    obtain ⟨i, hi, rfl, HMR⟩ := hrel
    clear HM0
    by_cases hlt : i < NR
    · have hlt' : (i : Int) < (NR : Int) := by omega
      obtain ⟨hce, hen⟩ := HROW.out i hlt
      obtain ⟨c0, c1, c2, c3, c4, c5, c6⟩ := hce wr HMR.out.1
      have HEN := Lib.hid hen
      have HSi := Lib.hid (HS.out i)
      have hin1 := fun v hv => (HOA.out.2 i hlt v hv)
      have hin2 := fun v hv => (HOB.out.2 i hlt v hv)
      have HI1 := Lib.hid (fun v hv => (hin1 v hv).1); have HU1 := Lib.hid (fun v hv => (hin1 v hv).2)
      have HI2 := Lib.hid (fun v hv => (hin2 v hv).1); have HU2 := Lib.hid (fun v hv => (hin2 v hv).2)
      have HI3 := Lib.hid ((HOC.out.2 i hlt (kk, ki) (by simp)).1)
      have hmu := (HOC.out.2 i hlt (kk, ki) (by simp)).2
      have hka := okTup_len HOA.out hlt
      have hkb2 := okTup_len HOB.out hlt
      have ht4 : tn ≤ 4 := by rw [HTN.out]; exact HOA.out.1
      have hs4 : sn ≤ 4 := by rw [HSN.out]; exact HOB.out.1
      clear hce hen hin1 hin2
      obtain ⟨V, hV⟩ : ∃ V, V = evs i := ⟨_, rfl⟩
      rw [← hV] at c0 c1 c2 c3 c4 c5 c6 HEN
      clear hV
      obtain ⟨v1, v2, v3, v4, v5, v6, v7⟩ := V
      obtain ⟨e1, y1, h1⟩ := HEN.out.1.shape
      obtain ⟨e2, y2, h2⟩ := HEN.out.2.1.shape
      obtain ⟨e3, y3, h3⟩ := HEN.out.2.2.1.shape
      obtain ⟨e4, y4, h4⟩ := HEN.out.2.2.2.1.shape
      obtain ⟨e5, y5, h5⟩ := HEN.out.2.2.2.2.1.shape
      obtain ⟨e6, y6, h6⟩ := HEN.out.2.2.2.2.2.1.shape
      obtain ⟨e7, y7, h7⟩ := HEN.out.2.2.2.2.2.2.shape
      simp only at h1 h2 h3 h4 h5 h6 h7 c0 c1 c2 c3 c4 c5 c6
      subst h1 h2 h3 h4 h5 h6 h7
      obtain ⟨G, hG⟩ : ∃ G, G = FF i := ⟨_, rfl⟩
      rw [← hG] at HMR HSi
      clear hG
      generalize hEi : E i = Ei at *
      clear hEi
      generalize (Ei.l1).length = n1 at *
      generalize (Ei.l2).length = n2 at *
      generalize (Ei.l3).length = n3 at *
      generalize (Ei.l4).length = n4 at *
      generalize (Ei.l5).length = n5 at *
      generalize (Ei.l6).length = n6 at *
      generalize (Ei.l7).length = n7 at *
      obtain ⟨V, hV⟩ : ∃ V : Ev, V = ⟨.slice e1 n1 y1, .slice e2 n2 y2, .slice e3 n3 y3, .slice e4 n4 y4, .slice e5 n5 y5, .slice e6 n6 y6, .slice e7 n7 y7⟩ := ⟨_, rfl⟩
      have HVV := Lib.hid hV
      rw [← hV] at HEN
      clear hV
      go_upto_region 5 with fail
      obtain ⟨u, hu⟩ : ∃ u, u = wr.alloc (.cells #[.slice e1 n1 y1, .slice e2 n2 y2, .slice e3 n3 y3, .slice e4 n4 y4, .slice e5 n5 y5, .slice e6 n6 y6, .slice e7 n7 y7] 61) := ⟨_, rfl⟩
      obtain ⟨X, hX⟩ : ∃ X, X = wr.heap.size := ⟨_, rfl⟩
      rw [← hu, ← hX]
      have hOu : On wr u := by rw [hu]; exact (On.refl HMR.out.1.tab).alloc _
      have HBX : Hid (VB X u (evL V)) := by rw [hu, hX, HVV.out]; exact Lib.hid (vb_new wr _ _)
      have HMU := Lib.hid (HMR.out.on hOu)
      have HOu : Hid (On W0 u) := Lib.hid (HMR.out.1.trans hOu)
      have hXb : X ≠ bm := by
        obtain ⟨_, _, D, hv, _⟩ := HMR.out
        have h1 := hv.lt; have h2 := HBM.out; omega
      clear hu hX hOu c0 c1 c2 c3 c4 c5 c6 HMR
      have HSD0 : Hid (∀ wx, On W0 wx → VB X wx (evL V) → wx.cell? ⟨X, 0, none⟩ = some V.v1 ∧ wx.cell? ⟨X, 1, none⟩ = some V.v2 ∧ wx.cell? ⟨X, 2, none⟩ = some V.v3 ∧ wx.cell? ⟨X, 3, none⟩ = some V.v4 ∧ wx.cell? ⟨X, 4, none⟩ = some V.v5 ∧ wx.cell? ⟨X, 5, none⟩ = some V.v6 ∧ wx.cell? ⟨X, 6, none⟩ = some V.v7 ∧ wx.cell? ⟨Q, 0, none⟩ = some (.slice ua tn uc) ∧ wx.cell? ⟨Q, 1, none⟩ = some (.slice va sn vc) ∧ wx.cell? ⟨Q, 2, none⟩ = some (.int .u8 kk) ∧ wx.cell? ⟨Q, 3, none⟩ = some (.int .i64 ki)) := Lib.hid fun wx h hb =>
        ⟨hb.2.1 0 _ rfl, hb.2.1 1 _ rfl, hb.2.1 2 _ rfl, hb.2.1 3 _ rfl, hb.2.1 4 _ rfl, hb.2.1 5 _ rfl, hb.2.1 6 _ rfl, HLC.out wx h⟩
      have HSD : Hid (∀ wx, On u wx → _) := Lib.hid fun wx h => HSD0.out wx (HOu.out.trans h) (HBX.out.on h)
      have HTA : Hid (∀ wq, On u wq → Calls Tryd.prog 93 #[.slice ua tn uc, evA V] wq fun e w' => e = .returned (.string ⟨(txtT (tu.map (valE Ei))).toArray⟩) ∧ On u w') := Lib.hid fun wq h => by
        have h1 := text_any tu ua uc V Ei wq h.tab (HP.out.on (HOu.out.trans h)) (by rw [← HTN.out]; exact HVA.out.on (HOu.out.trans h)) (HEN.out.on (HOu.out.trans h)) HI1.out HU1.out (by rw [← HTN.out]; omega)
        rw [← HTN.out] at h1
        exact h1.mono fun e w' ⟨he, ho⟩ => ⟨he, h.trans ho⟩
      have HTB : Hid (∀ wq, On u wq → Calls Tryd.prog 93 #[.slice va sn vc, evA V] wq fun e w' => e = .returned (.string ⟨(txtT (ta.map (valE Ei))).toArray⟩) ∧ On u w') := Lib.hid fun wq h => by
        have h1 := text_any ta va vc V Ei wq h.tab (HP.out.on (HOu.out.trans h)) (by rw [← HSN.out]; exact HVB.out.on (HOu.out.trans h)) (HEN.out.on (HOu.out.trans h)) HI2.out HU2.out (by rw [← HSN.out]; omega)
        rw [← HSN.out] at h1
        exact h1.mono fun e w' ⟨he, ho⟩ => ⟨he, h.trans ho⟩
      have hka1 : (txtT (tu.map (valE Ei))).length ≤ 1000000 := by omega
      have hkb : (txtT (ta.map (valE Ei))).length ≤ 1000000 := by omega
      generalize txtT (tu.map (valE Ei)) = ka at *
      generalize txtT (ta.map (valE Ei)) = kb at *
      obtain ⟨mm, hmm⟩ : ∃ mm, mm = valE Ei (kk, ki) := ⟨_, rfl⟩
      rw [← hmm] at HSi hmu
      have HMM := Lib.hid hmm
      clear hmm hka hkb2
      refine region_keep_tail (fun wq => On u wq) 8 (by kernel_rfl) (by kernel_rfl) (On.refl HOu.out.tab).drew ?_
      simp only [List.take_succ_cons, List.take_zero, List.drop_succ_cons, List.drop_zero]
      refine quiet_start fun L9 hL9 => ?_
      refine quiet_take (v := ?fv0) hL9 (by kernel_rfl) (fun wq hwq => ?fy0) (fun L9 hL9 => ?fr0)
      case fy0 => (go_simp; try with_reducible rfl)
      try simp only [Act.put, List.setIfInBounds_toArray, List.set_cons_zero, List.set_cons_succ]
      refine quiet_take (v := .slice ua tn uc) hL9 (by kernel_rfl) (fun wq hwq => ?fy1) (fun L9 hL9 => ?fr1)
      case fy1 => (obtain ⟨z0, z1, z2, z3, z4, z5, z6, x0, x1, x2, x3⟩ := HSD.out wq hwq; go_simp; try with_reducible rfl)
      try simp only [Act.put, List.setIfInBounds_toArray, List.set_cons_zero, List.set_cons_succ]
      refine quiet_take (v := evA V) hL9 (by kernel_rfl) (fun wq hwq => ?fy2) (fun L9 hL9 => ?fr2)
      case fy2 => (obtain ⟨z0, z1, z2, z3, z4, z5, z6, x0, x1, x2, x3⟩ := HSD.out wq hwq; go_simp; try with_reducible rfl)
      try simp only [Act.put, List.setIfInBounds_toArray, List.set_cons_zero, List.set_cons_succ]
      refine quiet_take (v := .string ⟨ka.toArray⟩) hL9 (by kernel_rfl) (fun wq hwq => ?fy3) (fun L9 hL9 => ?fr3)
      case fy3 => (go_simp; go_at_call 93; exact HTA.out wq hwq)
      try simp only [Act.put, List.setIfInBounds_toArray, List.set_cons_zero, List.set_cons_succ]
      refine quiet_take (v := ?fv4) hL9 (by kernel_rfl) (fun wq hwq => ?fy4) (fun L9 hL9 => ?fr4)
      case fy4 => (go_simp; try with_reducible rfl)
      try simp only [Act.put, List.setIfInBounds_toArray, List.set_cons_zero, List.set_cons_succ]
      refine quiet_take (v := .slice va sn vc) hL9 (by kernel_rfl) (fun wq hwq => ?fy5) (fun L9 hL9 => ?fr5)
      case fy5 => (obtain ⟨z0, z1, z2, z3, z4, z5, z6, x0, x1, x2, x3⟩ := HSD.out wq hwq; go_simp; try with_reducible rfl)
      try simp only [Act.put, List.setIfInBounds_toArray, List.set_cons_zero, List.set_cons_succ]
      refine quiet_take (v := evA V) hL9 (by kernel_rfl) (fun wq hwq => ?fy6) (fun L9 hL9 => ?fr6)
      case fy6 => (obtain ⟨z0, z1, z2, z3, z4, z5, z6, x0, x1, x2, x3⟩ := HSD.out wq hwq; go_simp; try with_reducible rfl)
      try simp only [Act.put, List.setIfInBounds_toArray, List.set_cons_zero, List.set_cons_succ]
      refine quiet_take (v := .string ⟨kb.toArray⟩) hL9 (by kernel_rfl) (fun wq hwq => ?fy7) (fun L9 hL9 => ?fr7)
      case fy7 => (go_simp; go_at_call 93; exact HTB.out wq hwq)
      try simp only [Act.put, List.setIfInBounds_toArray, List.set_cons_zero, List.set_cons_succ]
      refine quiet_nil hL9 ?_
      clear hL9
      intro wy hOy
      have HOy := Lib.hid hOy
      clear hOy
      have HMY := Lib.hid (HMU.out.on HOy.out)
      have HGle := HMY.out.2.1
      have hGa := HGle ka
      have hlook := HMY.out.look ka hka1
      obtain ⟨wz, hst, hMz, hVz⟩ := HMY.out.step (by omega) ka hka1 (addF f (G ka) 1) (addF_le _ _ _)
      rw [← HBM.out] at hlook hst
      have HADD : Hid (Calls Tryd.prog 94 #[.int .i64 f, .int .u64 ((G ka : Nat) : Int), .int .u64 1] wy fun e w' => e = .returned (.int .u64 ((addF f (G ka) 1 : Nat) : Int)) ∧ wy = w') := Lib.hid (add_any f (G ka) 1 wy HMY.out.1.tab (by omega) (by omega))
      have HMZ := Lib.hid hMz
      have HBZ := Lib.hid (hVz X _ (HBX.out.on HOy.out) (by rw [← HBM.out]; exact hXb))
      clear hMz hVz HGle
      
      go_upto_region 7 with (go_at_call 94; (with_reducible refine HADD.out.mono ?_); rintro e w9 ⟨rfl, rfl⟩)
      clear hlook hst HADD
      obtain ⟨G1, hG1⟩ : ∃ G1 : Key → Nat, G1 = fun t => if t = ka then addF f (G ka) 1 else G t := ⟨_, rfl⟩
      rw [← hG1] at HMZ
      obtain ⟨uD, huD⟩ : ∃ uD, uD = wz.drew := ⟨_, rfl⟩
      have hOD : On wz uD := by rw [huD]; exact (On.refl HMZ.out.1.tab).drew
      have HMD := Lib.hid (HMZ.out.on hOD)
      have HBD := Lib.hid (HBZ.out.on hOD)
      have hSd : On uD uD := On.refl HMD.out.1.tab
      clear HSD
      have HSD : Hid (∀ wx, On uD wx → _) := Lib.hid fun wx h => HSD0.out wx (HMD.out.1.trans h) (HBD.out.on h)
      obtain ⟨Gb, hGb⟩ : ∃ Gb, Gb = G1 kb := ⟨_, rfl⟩
      have HLK2 : Hid (∀ w', On uD w' → (Instr.lookup 136 (.map (some bm)) (.string ⟨kb.toArray⟩) false).run Tryd.prog w' = .ok (.int .u64 ((Gb : Nat) : Int)) w') := Lib.hid fun w' h => by
        rw [HBM.out, hGb]; exact (HMD.out.on h).look kb hkb
      have hGbl : Gb ≤ 998244353 := by rw [hGb]; exact HMD.out.2.1 kb
      have HVO : Hid (Calls Tryd.prog 95 #[.agg #[.int .u8 kk, .int .i64 ki], evA V] uD fun e w' => e = .returned (.int .u64 ((mm : Nat) : Int)) ∧ On uD w') := by
        rw [HMM.out]; exact Lib.hid (valueof_any kk ki V Ei uD HMD.out.1.tab (HEN.out.on HMD.out.1) HI3.out)
      have HNX : Hid (FF (i + 1) = fun t => if t = kb then subF f Gb mm else G1 t) := Lib.hid (by rw [HSi.out, hGb, hG1]; rfl)
      clear hG1 hGb hOD
      refine region_head_tail (S := fun wx => On uD wx) 11 (by kernel_rfl) (by kernel_rfl) ?_
      rw [← huD]
      clear huD
      refine HeadG.take (i := 0) (v := ?hvg0) rfl (by kernel_rfl) (by kernel_rfl) (by kernel_rfl) (by kernel_rfl) (by kernel_rfl) (by kernel_rfl) (by kernel_rfl) (fun _ _ _ h => h) (Or.inl ⟨by rfl, ?hyg0⟩) hSd ?hrg0
      case hyg0 => (intro w' hSw; go_simp; try with_reducible rfl)
      try simp only [Act.put, List.setIfInBounds_toArray, List.set_cons_zero, List.set_cons_succ, List.getElem_toArray, List.getElem_cons_zero, List.getElem_cons_succ]
      refine HeadG.take (i := 1) (v := ?hvg1) rfl (by kernel_rfl) (by kernel_rfl) (by kernel_rfl) (by kernel_rfl) (by kernel_rfl) (by kernel_rfl) (by kernel_rfl) (fun _ _ _ h => h) (Or.inl ⟨by rfl, ?hyg1⟩) hSd ?hrg1
      case hyg1 => (intro w' hSw; go_simp; try with_reducible rfl)
      try simp only [Act.put, List.setIfInBounds_toArray, List.set_cons_zero, List.set_cons_succ, List.getElem_toArray, List.getElem_cons_zero, List.getElem_cons_succ]
      refine HeadG.take (i := 2) (v := ?hvg2) rfl (by kernel_rfl) (by kernel_rfl) (by kernel_rfl) (by kernel_rfl) (by kernel_rfl) (by kernel_rfl) (by kernel_rfl) (fun _ _ _ h => h) (Or.inl ⟨by rfl, ?hyg2⟩) hSd ?hrg2
      case hyg2 => (intro w' hSw; go_simp; try with_reducible rfl)
      try simp only [Act.put, List.setIfInBounds_toArray, List.set_cons_zero, List.set_cons_succ, List.getElem_toArray, List.getElem_cons_zero, List.getElem_cons_succ]
      refine HeadG.take (i := 3) (v := ?hvg3) rfl (by kernel_rfl) (by kernel_rfl) (by kernel_rfl) (by kernel_rfl) (by kernel_rfl) (by kernel_rfl) (by kernel_rfl) (fun _ _ _ h => h) (Or.inl ⟨by rfl, ?hyg3⟩) hSd ?hrg3
      case hyg3 => (intro w' hSw; go_simp; try with_reducible rfl)
      try simp only [Act.put, List.setIfInBounds_toArray, List.set_cons_zero, List.set_cons_succ, List.getElem_toArray, List.getElem_cons_zero, List.getElem_cons_succ]
      refine HeadG.take (i := 4) (v := ?hvg4) rfl (by kernel_rfl) (by kernel_rfl) (by kernel_rfl) (by kernel_rfl) (by kernel_rfl) (by kernel_rfl) (by kernel_rfl) (fun _ _ _ h => h) (Or.inl ⟨by rfl, ?hyg4⟩) hSd ?hrg4
      case hyg4 => (intro w' hSw; go_simp; try with_reducible rfl)
      try simp only [Act.put, List.setIfInBounds_toArray, List.set_cons_zero, List.set_cons_succ, List.getElem_toArray, List.getElem_cons_zero, List.getElem_cons_succ]
      refine HeadG.take (i := 5) (v := .int .u64 ((Gb : Nat) : Int)) rfl (by kernel_rfl) (by kernel_rfl) (by kernel_rfl) (by kernel_rfl) (by kernel_rfl) (by kernel_rfl) (by kernel_rfl) (fun _ _ _ h => h) (Or.inl ⟨by rfl, ?hyg5⟩) hSd ?hrg5
      case hyg5 => (intro w' hSw; have h1 := HLK2.out w' hSw; go_simp; try with_reducible rfl)
      try simp only [Act.put, List.setIfInBounds_toArray, List.set_cons_zero, List.set_cons_succ, List.getElem_toArray, List.getElem_cons_zero, List.getElem_cons_succ]
      refine HeadG.take (i := 6) (v := ?hvg6) rfl (by kernel_rfl) (by kernel_rfl) (by kernel_rfl) (by kernel_rfl) (by kernel_rfl) (by kernel_rfl) (by kernel_rfl) (fun _ _ _ h => h) (Or.inl ⟨by rfl, ?hyg6⟩) hSd ?hrg6
      case hyg6 => (intro w' hSw; go_simp; try with_reducible rfl)
      try simp only [Act.put, List.setIfInBounds_toArray, List.set_cons_zero, List.set_cons_succ, List.getElem_toArray, List.getElem_cons_zero, List.getElem_cons_succ]
      refine HeadG.take (i := 7) (v := .agg #[.int .u8 kk, .int .i64 ki]) rfl (by kernel_rfl) (by kernel_rfl) (by kernel_rfl) (by kernel_rfl) (by kernel_rfl) (by kernel_rfl) (by kernel_rfl) (fun _ _ _ h => h) (Or.inl ⟨by rfl, ?hyg7⟩) hSd ?hrg7
      case hyg7 => (intro w' hSw; obtain ⟨z0, z1, z2, z3, z4, z5, z6, x0, x1, x2, x3⟩ := HSD.out w' hSw; go_simp; try with_reducible rfl)
      try simp only [Act.put, List.setIfInBounds_toArray, List.set_cons_zero, List.set_cons_succ, List.getElem_toArray, List.getElem_cons_zero, List.getElem_cons_succ]
      refine HeadG.take (i := 8) (v := evA V) rfl (by kernel_rfl) (by kernel_rfl) (by kernel_rfl) (by kernel_rfl) (by kernel_rfl) (by kernel_rfl) (by kernel_rfl) (fun _ _ _ h => h) (Or.inl ⟨by rfl, ?hyg8⟩) hSd ?hrg8
      case hyg8 => (intro w' hSw; obtain ⟨z0, z1, z2, z3, z4, z5, z6, x0, x1, x2, x3⟩ := HSD.out w' hSw; go_simp; try with_reducible rfl)
      try simp only [Act.put, List.setIfInBounds_toArray, List.set_cons_zero, List.set_cons_succ, List.getElem_toArray, List.getElem_cons_zero, List.getElem_cons_succ]
      refine HeadG.one (i := 9) rfl (by kernel_rfl) (by kernel_rfl) (fun K9 hK9 => ?_)
      go_simp
      go_at_call 95
      with_reducible refine HVO.out.mono ?_
      rintro e wv ⟨rfl, hOv⟩
      refine hK9.out _ _ hOv ?_
      clear hK9 K9
      try simp only [Act.put, List.setIfInBounds_toArray, List.set_cons_zero, List.set_cons_succ, List.getElem_toArray, List.getElem_cons_zero, List.getElem_cons_succ]
      refine HeadG.one (i := 10) rfl (by kernel_rfl) (by kernel_rfl) (fun K9 hK9 => ?_)
      go_simp
      go_at_call 76
      with_reducible refine (sub_any f Gb mm wv hOv.tab (by omega) (by omega)).mono ?_
      rintro e wv2 ⟨rfl, rfl⟩
      refine hK9.out _ _ hOv ?_
      clear hK9 K9
      try simp only [Act.put, List.setIfInBounds_toArray, List.set_cons_zero, List.set_cons_succ, List.getElem_toArray, List.getElem_cons_zero, List.getElem_cons_succ]
      obtain ⟨wm, hst, hMw, hVm⟩ := (HMD.out.on hOv).step (by omega) kb hkb (subF f Gb mm) (subF_le _ _ _)
      rw [← HBM.out] at hst
      have HST := Lib.hid hst
      have HMW := Lib.hid hMw
      clear hst hMw hVm
      refine HeadG.last (i := 11) rfl (by kernel_rfl) (by kernel_rfl) (by kernel_rfl) (fun K9 hK9 => ?_)
      have h1 := HST.out
      go_simp
      refine hK9.out _ _ ?_
      clear hK9 K9 h1
      try simp only [Act.put, List.setIfInBounds_toArray, List.set_cons_zero, List.set_cons_succ, List.getElem_toArray, List.getElem_cons_zero, List.getElem_cons_succ]
      have HM9 : Hid (MU W0 wm (FF (i + 1)) ((i + 1) * 2)) := by rw [HNX.out, show (i + 1) * 2 = i * 2 + 1 + 1 by omega]; exact HMW
      clear HST HMW
      go_wp2
      go_roundw
      case rel => exact ⟨i + 1, by omega, by simp, HM9⟩
      case measure => simp [RowKit.intOf]; omega
    · obtain rfl : NR = i := by omega
      obtain ⟨hO4, _, D, hown, hD⟩ := HMR.out
      have HFS : Hid (∀ s : Key, D.atKey (.string s) (.lit (.int .u64 0)) = .lit (.int .u64 ((FF NR s : Nat) : Int))) := Lib.hid hD
      have HO4 := Lib.hid hO4
      obtain ⟨r, hr⟩ : ∃ r, r = wr.heap.size := ⟨_, rfl⟩
      have HRL : Hid (W0.heap.size ≤ r) := by rw [hr]; exact Lib.hid hO4.size
      rw [← HBM.out] at hown
      have HOWN := Lib.hid hown
      have HR9 := Lib.hid hr
      clear hO4 hD hown hr
      generalize NR * 2 = n at *
      generalize FF NR = F at *
      go_wp2_with (first
        | (at_range; refine wpList_range_own _ rfl _ 136 rfl 9 42 lawSz Tryd.underlying136 _ bm n D rfl HOWN.out ?_; intro w0 hrg0 hg0 hs0)
        | fail)
      go_frame
      rw [← HR9.out] at hrg0
      rw [← HR9.out]
      have HRG := Lib.hid hrg0
      have HON : Hid (On W0 w0) := Lib.hid (HO4.out.gbv hg0 (fun r hr => by cases hr))
      have HHL : Hid (∀ s : Key, Maps.has D (.string s) = false → Maps.has D (.string s) = false ∨ F s = 0) := Lib.hid fun s h => .inl h
      clear hrg0 hg0 hs0
      go_loopw [50] (fun _ wq => ∃ (left : Lit → Bool) (cnt : Nat), Hid (wq.ranges Tryd.prog 9 (plainElem Tryd.prog 42) bm r n D left cnt) ∧ Hid (On W0 wq) ∧ Hid (∀ s : Key, left (.string s) = false → Maps.has D (.string s) = false ∨ F s = 0)) (fun _ wq => wq.rangeLeft bm r)
      case atStart => exact ⟨_, _, HRG, HON, HHL⟩
      case round =>
        rename World => wq
        obtain ⟨left, cnt, HG, HW, HL⟩ := hrel
        go_wp2_with (first
          | (at_next; refine wpList_next_ranges _ rfl _ rfl 9 lawSz (plainElem Tryd.prog 42) Value.string (Value.int .u64) (fun key kl hkey => by obtain ⟨x, rfl, _⟩ := keyOf_str_inv hkey; exact ⟨x, rfl⟩) (fun v y hv => by obtain ⟨c, rfl, _⟩ := plainElem_int_inv Tryd.underlying42 hv; exact ⟨c, rfl⟩) bm r n _ _ _ rfl HG.out ?_ ?_)
          | fail)
        · intro _ hl0
          have HF : Hid (∀ s, F s = 0) := Lib.hid fun s => by
            rcases HL.out s (hl0 _) with h | h
            · have h1 := HFS.out s
              rw [Maps.atKey_of_not_has h] at h1
              simp only [DataW.lit.injEq, Lit.int.injEq, true_and] at h1
              omega
            · exact h
          clear hl0
          go_wp2
          go_ret
          exact LkPost.yes HF.out (HO0.out.trans HW.out)
        · intro x c kl y ys w1 cnt1 hkey hlk hv hat hrg1 hlt hg1 hs1 hen
          obtain ⟨x', ex, rfl⟩ := keyOf_str_inv hkey
          cases ex
          obtain ⟨c', ec, hy9, hwc⟩ := plainElem_int_inv Tryd.underlying42 hv
          cases ec
          simp only [Prod.mk.injEq] at hy9
          obtain ⟨rfl, rfl⟩ := hy9
          have hcF : c = ((F x.data.toList : Nat) : Int) := by
            have h1 := HFS.out x.data.toList
            rw [hat] at h1
            simpa using h1
          have HRG1 := Lib.hid hrg1
          have HLT := Lib.hid hlt
          have HON1 : Hid (On W0 w1) := Lib.hid (HW.out.gbv hg1 (fun r' hr' => by simp only [Option.some.injEq] at hr'; subst hr'; exact HRL.out))
          clear hkey hlk hv hat hrg1 hlt hg1 hs1 hwc
          by_cases hc0 : c = 0
          · have HL1 : Hid (∀ s : Key, (left (.string s) && !(Lit.string s).sameKey (.string x.data.toList)) = false → Maps.has D (.string s) = false ∨ F s = 0) := Lib.hid fun s h => by
              rw [Bool.and_eq_false_iff] at h
              rcases h with h | h
              · exact HL.out s h
              · have h2 : Lit.string s = .string x.data.toList := WideAt.sameKey_eq (by simpa using h)
                simp only [Lit.string.injEq] at h2
                right; rw [h2]; omega
            subst hc0
            clear hcF
            go_wp2_with fail
            go_roundw
            case rel => exact ⟨_, cnt1, HRG1, HON1, HL1⟩
            case measure => rw [HRG1.out.left_eq, HG.out.left_eq]; exact HLT.out
          · have HF : Hid (¬ ∀ s, F s = 0) := Lib.hid fun h => hc0 (by rw [hcF, h]; rfl)
            have hb : (c != 0) = true := by simpa using hc0
            clear hcF hc0
            go_wp2_with fail
            go_ret
            exact LkPost.no HF.out (HO0.out.trans HON1.out)
end Go.Proofs.YtnanjacllmdenaaDoor
