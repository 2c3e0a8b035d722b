/- Lists grown by append in memory; slices.Concat of tuples. -/
import Derived.Test.YtnanjacllmdenaaDoorKc11
import Derived.Test.YtnanjacllmdenaaDoorKc12
import Derived.Test.YtnanjacllmdenaaDoorKc09
set_option linter.unusedSimpArgs false
set_option linter.unusedVariables false
/- Lists grown by append in memory; slices.Concat of tuples. -/
namespace Go.Proofs.YtnanjacllmdenaaDoor
open Go.RowKit Go.Lib Go.Sort
set_option linter.unusedVariables false

theorem info_tup : (Tryd.prog.info? 53).map (fun i => (i.zero, i.size, i.bytes)) = some (some (.slice none 0 0), 1, 24) := by kernel_rfl
theorem info_kd : (Tryd.prog.info? 50).map (fun i => (i.zero, i.size, i.bytes)) = some (some (.int .u8 0), 1, 1) := by kernel_rfl
/-- A literal in new memory is a grown list. -/
theorem own_lit (w : World) (e : TypeId) (k : Nat) (l : List Value) (n : Nat) (hl : l.length = n * k) (hn : n ≤ maxLen) : (w.alloc (.cells l.toArray e)).ownsRow w.heap.size e k (.slice (some ⟨w.heap.size, 0, none⟩) n n) n l :=
  ⟨hl, .inr ⟨w.heap.size, n, l.toArray, rfl, Nat.le_refl _, by show (w.heap.push _)[w.heap.size]? = _; simp, Nat.le_refl _, hn, by simpa using hl, by rw [← hl]; simp⟩⟩
/-- A grown list of one-cell elements reads as what it was grown of. -/
theorem own_sld {α : Type} (z : α) (R : World → Nat → Nat → α → Prop) {w : World} {B n : Nat} {e : TypeId} {v : Value} {xs : List Value} {l : List α} (h : w.ownsRow B e 1 v n xs) (hl : l.length = n) (hn : n ≤ 9223372036854775807)
    (hR : ∀ g i u, i < n → xs[i]? = some u → w.cell? ⟨g, i, none⟩ = some u → R w g i (l.getD i z)) : SLd z 1 R w v l := by
  obtain ⟨hx, ⟨rfl, rfl⟩ | ⟨g, cap, cur, rfl, hb, hg, h1, h2, h3, h4⟩⟩ := h
  · exact ⟨by omega, .inl ⟨List.eq_nil_of_length_eq_zero hl, none, 0, rfl⟩⟩
  · subst hl
    refine ⟨hn, .inr ⟨g, 0, cap, rfl, fun i hi => ?_⟩⟩
    have hxi : i < xs.length := by omega
    have e0 : xs[i]? = some xs[i] := List.getElem?_eq_getElem hxi
    have hcell : w.cell? ⟨g, i, none⟩ = some xs[i] := by
      have := World.ownsRow.cells (w := w) (base := B) (e := e) (size := 1) (n := l.length) (v := .slice (some ⟨g, 0, none⟩) l.length cap) (xs := xs) ⟨hx, .inr ⟨g, cap, cur, rfl, hb, hg, h1, h2, h3, h4⟩⟩ (g := g) rfl i _ e0
      have e1 : (⟨g, 0, none⟩ : Addr).add i = ⟨g, i, none⟩ := by unfold Addr.add; split <;> simp_all
      rwa [e1] at this
    have := hR g i _ hi e0 hcell
    simpa using this
/-- slices.Grow(nil, n). -/
theorem growt_any (n : Nat) (w : World) (hT : Tab w) (hn : n ≤ 1000000) :
    Calls Tryd.prog 164 #[.slice none 0 0, .int .i64 (n : Int)] w fun e w' => (∃ v, e = .returned v ∧ w'.ownsRow w.heap.size 53 1 v 0 []) ∧ On w w' := by
  have H0 := Lib.hid (On.refl hT)
  rcases Nat.eq_zero_or_pos n with h0 | h0
  · subst h0
    go_enter Tryd.func164, Tryd.ntmps164
    go_wp2
    go_ret
    exact ⟨⟨_, rfl, World.ownsRow_nil _ _ _ _⟩, H0.out⟩
  · obtain ⟨i0, hi, hz0, hz1, hz2⟩ := info_parts info_tup
    have HRUN := Lib.hid (fun ty => append_make_nil (P := Tryd.prog) w 54 3 ty 53 i0 (.slice none 0 0) Tryd.underlying54 Tryd.underlying3 hi hz0 n h0 (by rw [hz1]; omega) (by rw [hz2]; omega) (by rw [hz2]; omega) (by omega))
    have hge := grownCap_ge w n 0 53
    have hcm := grownCap_le_maxLen w n 0 53 (by unfold maxLen; omega)
    generalize grownCap w n 0 53 = cc at *
    have HOWN : Hid ((w.drew.alloc (.cells (Builtin.zeroCells (Value.slice none 0 0).cells n ++ Builtin.zeroCells (Value.slice none 0 0).cells (cc - n)) 53)).ownsRow w.heap.size 53 1 (.slice (some ⟨w.heap.size, 0, none⟩) 0 cc) 0 []) := by
      refine World.ownsRow_made w.drew _ cc (Nat.le_refl _) hcm ?_
      simp only [Array.size_append, size_zeroCells]
      simp [Value.cells]; omega
    have HO2 : Hid (On w (w.drew.alloc (.cells (Builtin.zeroCells (Value.slice none 0 0).cells n ++ Builtin.zeroCells (Value.slice none 0 0).cells (cc - n)) 53))) := H0.out.drew.alloc _
    have hcm2 : cc ≤ 9223372036854775807 := by unfold maxLen at hcm; omega
    clear hi hz0 hz1 hz2 hcm
    generalize w.drew.alloc (.cells (Builtin.zeroCells (Value.slice none 0 0).cells n ++ Builtin.zeroCells (Value.slice none 0 0).cells (cc - n)) 53) = w1 at *
    go_enter Tryd.func164, Tryd.ntmps164
    go_wp2_with (at_builtin; refine wp_appendJ rfl (.tmp 20) (.tmp 21) _ _ rfl _ _ _ rfl rfl HRUN.out ?_)
    go_ret
    exact ⟨⟨_, rfl, HOWN.out⟩, HO2.out⟩

/-- The slice v shows m lists of headers, the j-th of which has the cells F j. -/
def ULs (w : World) (v : Value) (m : Nat) (F : Nat → List Value) : Prop :=
  ∃ a cap, v = .slice a m cap ∧ m ≤ 1000 ∧ ∀ j, j < m → ∃ b o au cu, a = some ⟨b, o, none⟩ ∧ w.cell? ⟨b, o + j, none⟩ = some (.slice au (F j).length cu) ∧
    ((∀ u ∈ F j, u.oneCell' = true) ∧ (0 < (F j).length → ∃ a', au = some a' ∧ a'.block < w.heap.size ∧ ∀ i u, (F j)[i]? = some u → w.cell? (a'.add i) = some u))
def catU (F : Nat → List Value) : Nat → List Value
  | 0 => []
  | k + 1 => catU F k ++ F k
theorem catU_len {F : Nat → List Value} : ∀ k m, k ≤ m → (catU F k).length ≤ (catU F m).length
  | k, 0, h => by obtain rfl : k = 0 := by omega
                  exact Nat.le_refl _
  | k, m + 1, h => by
    by_cases e : k = m + 1
    · subst e; exact Nat.le_refl _
    · have := catU_len (F := F) k m (by omega)
      simp only [catU, List.length_append]; omega
def HdR (w : World) (au : Option Addr) (l : List Value) : Prop := (∀ u ∈ l, u.oneCell' = true) ∧ (0 < l.length → ∃ a', au = some a' ∧ a'.block < w.heap.size ∧ ∀ i u, l[i]? = some u → w.cell? (a'.add i) = some u)
theorem add_block (a : Addr) (i : Nat) : (a.add i).block = a.block := by unfold Addr.add; split <;> rfl
theorem HdR.on {W w : World} {au : Option Addr} {l : List Value} (h : HdR W au l) (k : On W w) : HdR w au l := ⟨h.1, fun h0 => by
  obtain ⟨a', e, hb, hc⟩ := h.2 h0
  exact ⟨a', e, Nat.lt_of_lt_of_le hb k.size, fun i u hi => (k.cell (p := a'.add i) ((add_block a' i).symm ▸ hb)).trans (hc i u hi)⟩⟩
theorem append_tup {B : Nat} {w : World} {v : Value} {n : Nat} {xs : List Value} (hown : w.ownsRow B 53 1 v n xs) (hB : B ≤ w.heap.size) {oa : Option Addr} {m c : Nat} {l : List Value} (hm : m = l.length) (hR : HdR w oa l) (hl : n + m ≤ 2000000) :
    ∃ v' w', (∀ ty, (Builtin.append_ #[54, 54] ty #[v, .slice oa m c]).run Tryd.prog w = .ok v' w') ∧ w'.ownsRow B 53 1 v' (n + m) (xs ++ l) ∧ w.grownBy w' v.ownBlock ∧ (v'.ownBlock = v.ownBlock ∨ v'.ownBlock = some w.heap.size) := by
  obtain ⟨i0, hi, hz0, hz1, hz2⟩ := info_parts info_tup
  refine append_cells (P := Tryd.prog) w B 54 53 i0 (.slice none 0 0) 1 24 Tryd.underlying54 hi hz0 hz1 hz2 rfl (by omega) v n xs hown oa m c l (by omega) (fun h0 => ?_) hR.1 (by unfold maxLen; omega) (by omega) hB
  obtain ⟨a', e, _, hc⟩ := hR.2 (by omega)
  exact ⟨a', e, hc⟩
set_option maxHeartbeats 1000000 in
theorem concatt_any (v : Value) (m : Nat) (F : Nat → List Value) (w : World) (hT : Tab w) (hR : ULs w v m F) (hL : (catU F m).length ≤ 1000000) :
    Calls Tryd.prog 149 #[v] w fun e w' => (∃ u, e = .returned u ∧ w'.ownsRow w.heap.size 53 1 u (catU F m).length (catU F m)) ∧ On w w' := by
  obtain ⟨a, cap, rfl, hm, hC⟩ := hR
  have HC := Lib.hid hC
  have H0 := Lib.hid (On.refl hT)
  have HM := Lib.hid (fun k h => catU_len (F := F) k m h)
  obtain ⟨N, hN⟩ : ∃ N, N = (catU F m).length := ⟨_, rfl⟩
  have HN := Lib.hid hN
  rw [← hN] at hL
  have HG := Lib.hid (growt_any N w hT hL)
  clear hC hT hN
  go_enter Tryd.func149, Tryd.ntmps149
  go_wp2_with fail
  go_loop [3, 11] (fun vs vi => ∃ k q : Nat, k ≤ m ∧ vi = .int .i64 (k : Int) ∧ vs = .int .i64 (q : Int) ∧ Hid (q = (catU F k).length)) (fun _ vi => m - (intOf vi).toNat)
  case atStart => exact ⟨0, 0, Nat.zero_le _, rfl, rfl, Lib.hid rfl⟩
  case round =>
    obtain ⟨k, q, hk, rfl, rfl, HQ⟩ := hrel
    by_cases hlt : k < m
    · obtain ⟨b, o, au, cu, rfl, c0, c1⟩ := HC.out k hlt
      have hlt' : (k : Int) < (m : Int) := by omega
      have HS : Hid ((catU F (k + 1)).length = q + (F k).length) := by unfold Hid; rw [HQ.out]; simp [catU]
      have hq2 : q + (F k).length ≤ 1000000 := by
        rw [← HS.out]; have := HM.out (k + 1) (by omega); rw [← HN.out] at this; omega
      clear c1 HQ
      generalize (F k).length = y at *
      go_wp2
      go_round
      case rel => exact ⟨k + 1, q + y, by omega, by simp, by simp, Lib.hid HS.out.symm⟩
      case measure => simp [intOf]; omega
    · obtain rfl : k = m := by omega
      obtain rfl : q = N := by rw [HQ.out, HN.out]
      clear HQ
      go_wp2_with (go_at_call 164; refine HG.out.mono ?_; rintro e w1 ⟨⟨v1, rfl, hown1⟩, hO1⟩)
      have HO1 := Lib.hid hO1
      have HOW := Lib.hid hown1
      clear hown1 hO1 HG
      go_loopw [6, 27] (fun vs vi wr => ∃ j : Nat, j ≤ k ∧ vi = .int .i64 (j : Int) ∧ Hid (wr.ownsRow w.heap.size 53 1 vs (catU F j).length (catU F j)) ∧ Hid (On w wr)) (fun _ vi _ => k - (intOf vi).toNat)
      case atStart => exact ⟨0, Nat.zero_le _, rfl, HOW, HO1⟩
      case round =>
        rename World => wr
        obtain ⟨j, hj, rfl, HV, HO⟩ := hrel
        by_cases hjk : j < k
        · obtain ⟨b, o, au, cu, rfl, c0, c1⟩ := HC.out j hjk
          have c0' := (HO.out.cell (p := ⟨b, o + j, none⟩) (cell_size c0)).trans c0
          have hjk' : (j : Int) < (k : Int) := by omega
          have hq2 : (catU F j).length + (F j).length ≤ 2000000 := by
            have := HM.out (j + 1) (by omega); simp only [catU, List.length_append] at this; have := HN.out; omega
          obtain ⟨v', w', hrun, hown', hg, -⟩ := append_tup (oa := au) (m := (F j).length) (c := cu) (l := F j) HV.out HO.out.size rfl (HdR.on c1 HO.out) hq2
          have HO2 := Lib.hid (HO.out.gbv hg (fun r hr => ownsRow_below HV.out r hr))
          have HRUN := Lib.hid hrun
          have HV2 : Hid (w'.ownsRow w.heap.size 53 1 v' (catU F (j + 1)).length (catU F (j + 1))) := by
            unfold Hid; rw [catU, List.length_append]; exact hown'
          clear hrun hown' hg HV
          go_wp2_with (at_builtin; refine wp_appendJ rfl (.tmp 31) (.tmp 32) _ _ rfl _ _ v' rfl rfl HRUN.out ?_)
          go_roundw
          case rel => exact ⟨j + 1, by omega, by simp, HV2, HO2⟩
          case measure => simp [intOf]; omega
        · obtain rfl : j = k := by omega
          go_wp2
          go_ret
          exact ⟨⟨_, rfl, HV.out⟩, HO.out⟩
end Go.Proofs.YtnanjacllmdenaaDoor

/- Package system: validLookup, validPerm, and all of them: what the calls return. -/
namespace Go.Proofs.YtnanjacllmdenaaDoor
open Go.RowKit
set_option linter.unusedVariables false

/-- Lists of kinds, of one variable, of one number, in new memory. -/
theorem kd_lit (w : World) (ks : List Int) (hn : ks.length ≤ 1000) : KdL (w.alloc (.cells (ks.map (Value.int .u8)).toArray 50)) (.slice (some ⟨w.heap.size, 0, none⟩) ks.length ks.length) ks := by
  have h := own_lit w 50 1 (ks.map (Value.int .u8)) ks.length (by simp) (by unfold maxLen; omega)
  refine own_sld 0 RKd h rfl (by omega) fun g i u hi hu hc => ?_
  rw [List.getElem?_map, List.getElem?_eq_getElem hi] at hu
  simp only [Option.map_some, Option.some.injEq] at hu
  rw [RKd, hc, ← hu, List.getD_eq_getElem?_getD, List.getElem?_eq_getElem hi]; rfl
theorem vr_lit (w : World) (k i : Int) (h : okV (k, i)) : VRw (w.alloc (.cells #[.int .u8 k, .int .i64 i] 52)) (.slice (some ⟨w.heap.size, 0, none⟩) 1 1) [(k, i)] := by
  have hb := vb_new w #[.int .u8 k, .int .i64 i] 52
  refine ⟨by simpa using h, by simp, .inr ⟨_, 0, 1, rfl, fun j hj => ?_⟩⟩
  obtain rfl : j = 0 := by simp at hj; omega
  exact ⟨hb.2.1 0 _ rfl, hb.2.1 1 _ rfl⟩
theorem rd_lit (w : World) (c : Nat) (h : c ≤ 18446744073709551615) : Reads (w.alloc (.cells #[.int .u64 (c : Int)] 42)) (.slice (some ⟨w.heap.size, 0, none⟩) 1 1) [c] := by
  have hb := vb_new w #[.int .u64 (c : Int)] 42
  refine ⟨by simpa using h, by simp, .inr ⟨_, 0, 1, rfl, fun j hj => ?_⟩⟩
  obtain rfl : j = 0 := by simp at hj; omega
  exact hb.2.1 0 _ rfl
set_option maxHeartbeats 1000000 in
set_option maxRecDepth 100000 in
theorem vlookup_any (S : Sy) (H : Sh) (l : Lk) (au av : Option Addr) (cu cv : Nat) (w : World) (hT : Tab w) (hs : szS S = true) (hu : VRw w (.slice au l.tu.length cu) l.tu) (hv : VRw w (.slice av l.ta.length cv) l.ta) (hc : okV l.ct) :
    Calls Tryd.prog 106 #[syA S H, .agg #[.slice au l.tu.length cu, .slice av l.ta.length cv, .int .u8 l.ct.1, .int .i64 l.ct.2]] w fun e w' => e = .returned (.bool (lkB S l)) ∧ On w w' := by
  obtain ⟨W0, hW0⟩ : ∃ W0, W0 = (w.alloc (syO S H)).alloc (.cells #[.slice au l.tu.length cu, .slice av l.ta.length cv, .int .u8 l.ct.1, .int .i64 l.ct.2] 81) := ⟨_, rfl⟩
  have hO0 : On w W0 := by rw [hW0]; exact ((On.refl hT).alloc _).alloc _
  have HB0 : Hid (VB w.heap.size W0 (syL S H)) := by rw [hW0]; exact Lib.hid ((vb_newS S H w).on ((On.refl ((On.refl hT).alloc _).tab).alloc _))
  have HB1 : Hid (VB (w.heap.size + 1) W0 [.slice au l.tu.length cu, .slice av l.ta.length cv, .int .u8 l.ct.1, .int .i64 l.ct.2]) := by
    have h := vb_new (w.alloc (syO S H)) #[.slice au l.tu.length cu, .slice av l.ta.length cv, .int .u8 l.ct.1, .int .i64 l.ct.2] 81
    rw [World.size_alloc] at h
    rw [hW0]; exact Lib.hid h
  have HOK : Hid (On W0 W0) := On.refl hO0.tab
  have HSY : Hid (∀ u, On W0 u → _) := fun u h => sy_cells (HB0.out.on h)
  have HLK : Hid (∀ u, On W0 u → u.cell? ⟨w.heap.size + 1, 0, none⟩ = some (.slice au l.tu.length cu) ∧ u.cell? ⟨w.heap.size + 1, 1, none⟩ = some (.slice av l.ta.length cv) ∧ u.cell? ⟨w.heap.size + 1, 2, none⟩ = some (.int .u8 l.ct.1) ∧ u.cell? ⟨w.heap.size + 1, 3, none⟩ = some (.int .i64 l.ct.2)) := fun u h => ⟨(HB1.out.on h).2.1 0 _ rfl, (HB1.out.on h).2.1 1 _ rfl, (HB1.out.on h).2.1 2 _ rfl, (HB1.out.on h).2.1 3 _ rfl⟩
  have HT1 : Hid (∀ u, On W0 u → Calls Tryd.prog 151 #[syA S H, .slice au l.tu.length cu, .slice (some ⟨u.heap.size, 0, none⟩) 2 2] (u.alloc (.cells #[.int .u8 1, .int .u8 3] 50)) fun e w' => e = .returned (.bool (tuB S [1, 3] l.tu)) ∧ On W0 w') := fun u h => by
    have hA : On u (u.alloc (.cells #[.int .u8 1, .int .u8 3] 50)) := (On.refl h.tab).alloc _
    exact (vtuple_any S H l.tu _ [1, 3] _ _ hA.tab hs (hu.on (hO0.trans (h.trans hA))) (kd_lit u [1, 3] (by simp))).mono fun e w' ⟨he, ho⟩ => ⟨he, h.trans (hA.trans ho)⟩
  have HT2 : Hid (∀ u, On W0 u → Calls Tryd.prog 151 #[syA S H, .slice av l.ta.length cv, .slice (some ⟨u.heap.size, 0, none⟩) 1 1] (u.alloc (.cells #[.int .u8 3] 50)) fun e w' => e = .returned (.bool (tuB S [3] l.ta)) ∧ On W0 w') := fun u h => by
    have hA : On u (u.alloc (.cells #[.int .u8 3] 50)) := (On.refl h.tab).alloc _
    exact (vtuple_any S H l.ta _ [3] _ _ hA.tab hs (hv.on (hO0.trans (h.trans hA))) (kd_lit u [3] (by simp))).mono fun e w' ⟨he, ho⟩ => ⟨he, h.trans (hA.trans ho)⟩
  have HT3 : Hid (∀ u, On W0 u → Calls Tryd.prog 147 #[syA S H, .slice (some ⟨u.heap.size, 0, none⟩) 1 1, .slice (some ⟨u.heap.size + 1, 0, none⟩) 1 1] ((u.alloc (.cells #[.int .u8 l.ct.1, .int .i64 l.ct.2] 52)).alloc (.cells #[.int .u8 1] 50)) fun e w' => e = .returned (.bool (hasK S [1] l.ct)) ∧ On W0 w') := fun u h => by
    have hA : On u (u.alloc (.cells #[.int .u8 l.ct.1, .int .i64 l.ct.2] 52)) := (On.refl h.tab).alloc _
    have hB : On (u.alloc (.cells #[.int .u8 l.ct.1, .int .i64 l.ct.2] 52)) ((u.alloc (.cells #[.int .u8 l.ct.1, .int .i64 l.ct.2] 52)).alloc (.cells #[.int .u8 1] 50)) := (On.refl hA.tab).alloc _
    have hk := kd_lit (u.alloc (.cells #[.int .u8 l.ct.1, .int .i64 l.ct.2] 52)) [1] (by simp)
    rw [World.size_alloc] at hk
    have h2 := has_any S H [(l.ct.1, l.ct.2)] _ [1] _ _ hB.tab hs ((vr_lit u l.ct.1 l.ct.2 hc).on hB) hk
    exact h2.mono fun e w' ⟨he, ho⟩ => ⟨by rw [he]; simp, h.trans (hA.trans (hB.trans ho))⟩
  have e : lkB S l = (decide (l.ta.length = l.tu.length) && (tuB S [1, 3] l.tu && (tuB S [3] l.ta && hasK S [1] l.ct))) := rfl
  rw [e]
  have HW0 := Lib.hid hW0; have HO0 := Lib.hid hO0
  clear hT hs hu hv hc hW0 hO0 e HB0 HB1
  generalize tuB S [1, 3] l.tu = B at *
  generalize tuB S [3] l.ta = C at *
  generalize hasK S [1] l.ct = D at *
  generalize l.tu.length = n at *
  generalize l.ta.length = m at *
  obtain ⟨a0, a1, ct⟩ := l
  obtain ⟨ck, ci⟩ := ct
  simp only at HW0 HSY HLK HT1 HT2 HT3 ⊢
  by_cases hmn : m = n
  rotate_left
  · have e1 : (decide (m = n) && (B && (C && D))) = false := by simp [hmn]
    have e2 : ((m : Int) == (n : Int)) = false := beq_no (by omega)
    rw [e1]; clear e1 hmn
    go_enter Tryd.func106, Tryd.ntmps106
    go_upto_region 1 with fail
    rw [← HW0.out]
    obtain ⟨s0, s1, s2, s3, s4, s5, s6, s7⟩ := HSY.out _ HOK.out; obtain ⟨l0, l1, l2, l3⟩ := HLK.out _ HOK.out
    go_wp2
    go_ret
    exact ⟨rfl, HO0.out⟩
  · subst hmn
    have e1 : (decide (m = m) && (B && (C && D))) = (B && (C && D)) := by simp
    rw [e1]; clear e1
    cases B <;> cases C <;> cases D
    all_goals (go_enter Tryd.func106, Tryd.ntmps106
               go_upto_region 1 with fail
               rw [← HW0.out]
               obtain ⟨s0, s1, s2, s3, s4, s5, s6, s7⟩ := HSY.out _ HOK.out; obtain ⟨l0, l1, l2, l3⟩ := HLK.out _ HOK.out
               go_wp2_with (first
                 | (go_at_call 151; (with_reducible refine (HT1.out _ HOK.out).mono ?_); rintro e w1 ⟨rfl, hO1⟩; obtain ⟨s0, s1, s2, s3, s4, s5, s6, s7⟩ := HSY.out w1 hO1; obtain ⟨l0, l1, l2, l3⟩ := HLK.out w1 hO1)
                 | (go_at_call 151; (with_reducible refine (HT2.out _ hO1).mono ?_); rintro e w2 ⟨rfl, hO2⟩; obtain ⟨s0, s1, s2, s3, s4, s5, s6, s7⟩ := HSY.out w2 hO2; obtain ⟨l0, l1, l2, l3⟩ := HLK.out w2 hO2)
                 | (go_at_call 147; (with_reducible refine (HT3.out _ hO2).mono ?_); rintro e w3 ⟨rfl, hO3⟩)
                 | fail)
               go_ret
               first | exact ⟨rfl, HO0.out.trans hO3⟩ | exact ⟨rfl, HO0.out.trans hO2⟩ | exact ⟨rfl, HO0.out.trans hO1⟩ | fail)
set_option maxHeartbeats 1000000 in
set_option maxRecDepth 100000 in
theorem all_look (S : Sy) (H : Sh) (l : List Lk) (v : Value) (w : World) (hT : Tab w) (hs : szS S = true) (hV : LkL w v l) :
    Calls Tryd.prog 105 #[syA S H, v, .func (.func 106) #[] #[]] w fun e w' => e = .returned (.bool (l.all (lkB S))) ∧ On w w' := by
  obtain ⟨a, cap, rfl⟩ := hV.shape
  have hL := hV.1
  obtain ⟨W0, hW0⟩ : ∃ W0, W0 = w.alloc (syO S H) := ⟨_, rfl⟩
  have hO0 : On w W0 := by rw [hW0]; exact (On.refl hT).alloc _
  obtain ⟨Q, hQ⟩ : ∃ Q, Q = w.heap.size := ⟨_, rfl⟩
  have HB0 : Hid (VB Q W0 (syL S H)) := by rw [hW0, hQ]; exact Lib.hid (vb_newS S H w)
  have HV := Lib.hid hV.cells
  have HW0 := Lib.hid hW0; have HQ := Lib.hid hQ; have HO0 := Lib.hid hO0; have HS := Lib.hid hs
  have HNO : Hid (∀ j, j < l.length → (lkB S) (l.getD j zLk) = false → l.all (lkB S) = false) := fun j hj h => all_no _ zLk l j hj h
  have HYES : Hid ((∀ j, j < l.length → (lkB S) (l.getD j zLk) = true) → l.all (lkB S) = true) := fun h => (all_getD _ zLk l).2 h
  generalize l.all (lkB S) = RR at *
  generalize hn : l.length = n at *
  clear hn hT hs hV hW0 hQ hO0
  go_enter Tryd.func105, Tryd.ntmps105
  go_upto_region 1 with fail
  rw [← HW0.out, ← HQ.out]
  go_wp2_with fail
  go_loopw [11] (fun vi wr => ∃ i : Nat, i ≤ n ∧ vi = .int .i64 (i : Int) ∧ Hid (∀ j, j < i → (lkB S) (l.getD j zLk) = true) ∧ Hid (On W0 wr)) (fun vi _ => n - (intOf vi).toNat)
  case atStart => exact ⟨0, Nat.zero_le _, rfl, Lib.hid (fun j hj => absurd hj (Nat.not_lt_zero _)), Lib.hid (On.refl HO0.out.tab)⟩
  case round =>
    rename World => wr
    obtain ⟨i, hi, rfl, HJ, HO⟩ := hrel
    by_cases hlt : i < n
    · have hlt' : (i : Int) < (n : Int) := by omega
      obtain ⟨b, off, rfl, c0⟩ := HV.out i hlt
      try simp only [Nat.mul_one] at c0
      have HJ2 : Hid ((lkB S) (l.getD i zLk) = true → ∀ j, j < i + 1 → (lkB S) (l.getD j zLk) = true) := fun h j hj => by
        by_cases e : j = i
        · rw [e]; exact h
        · exact HJ.out j (by omega)
      have HN := Lib.hid (HNO.out i hlt)
      have HOQ : On w wr := HO0.out.trans HO.out
      obtain ⟨u, u', d0, d1, d2, d3, d4, d5, d6⟩ := c0
      obtain ⟨ua, uc, rfl⟩ := d5.shape
      obtain ⟨va, vc, rfl⟩ := d6.shape
      have e0 := cell_on HOQ d0
      have e1 := cell_on HOQ d1
      have e2 := cell_on HOQ d2
      have e3 := cell_on HOQ d3
      clear d0 d1 d2 d3
      have HSY := sy_cells ((HB0.out.on HO.out).on ((On.refl HO.out.tab).alloc (.cells #[.slice ua (l.getD i zLk).tu.length uc, .slice va (l.getD i zLk).ta.length vc, .int .u8 (l.getD i zLk).ct.1, .int .i64 (l.getD i zLk).ct.2] 81)))
      obtain ⟨s0, s1, s2, s3, s4, s5, s6, s7⟩ := HSY
      have HCB : Hid (Calls Tryd.prog 106 #[syA S H, .agg #[.slice ua (l.getD i zLk).tu.length uc, .slice va (l.getD i zLk).ta.length vc, .int .u8 (l.getD i zLk).ct.1, .int .i64 (l.getD i zLk).ct.2]] (wr.alloc (.cells #[.slice ua (l.getD i zLk).tu.length uc, .slice va (l.getD i zLk).ta.length vc, .int .u8 (l.getD i zLk).ct.1, .int .i64 (l.getD i zLk).ct.2] 81)) fun e w' => e = .returned (.bool (lkB S (l.getD i zLk))) ∧ On (wr.alloc (.cells #[.slice ua (l.getD i zLk).tu.length uc, .slice va (l.getD i zLk).ta.length vc, .int .u8 (l.getD i zLk).ct.1, .int .i64 (l.getD i zLk).ct.2] 81)) w') := by
        have hA := (On.refl HO.out.tab).alloc (.cells #[.slice ua (l.getD i zLk).tu.length uc, .slice va (l.getD i zLk).ta.length vc, .int .u8 (l.getD i zLk).ct.1, .int .i64 (l.getD i zLk).ct.2] 81)
        exact Lib.hid (vlookup_any S H (l.getD i zLk) ua va uc vc _ hA.tab HS.out (d5.on (HOQ.trans hA)) (d6.on (HOQ.trans hA)) d4)
      clear d4 d5 d6
      generalize (l.getD i zLk).tu.length = ln at *
      generalize (l.getD i zLk).ta.length = lm at *
      generalize (l.getD i zLk).ct.1 = ck at *
      generalize (l.getD i zLk).ct.2 = ci at *
      clear HJ HOQ
      generalize (lkB S) (l.getD i zLk) = BB at *
      generalize l.getD i zLk = x at *
      cases BB with
      | false =>
        have HF := Lib.hid (HN.out rfl)
        go_wp2_with (go_at_call 106; (with_reducible refine HCB.out.mono ?_); rintro e wy ⟨rfl, hOy⟩)
        go_ret
        exact ⟨by rw [HF.out]; rfl, HO0.out.trans (HO.out.trans (((On.refl HO.out.tab).alloc _).trans hOy))⟩
      | true =>
        have HF := Lib.hid (HJ2.out rfl)
        go_wp2_with (go_at_call 106; (with_reducible refine HCB.out.mono ?_); rintro e wy ⟨rfl, hOy⟩)
        have hOz : Hid (On W0 wy) := Lib.hid (HO.out.trans (((On.refl HO.out.tab).alloc _).trans hOy))
        clear hOy
        go_roundw
        case rel => exact ⟨i + 1, by omega, by simp, HF, hOz⟩
        case measure => simp [intOf]; omega
    · obtain rfl : n = i := by omega
      have HG := Lib.hid (HYES.out HJ.out)
      have hOz := HO0.out.trans HO.out
      clear HJ
      go_wp2
      go_ret
      exact ⟨by rw [HG.out]; rfl, hOz⟩
end Go.Proofs.YtnanjacllmdenaaDoor

/- Package system: validPerm, and all of them: what the calls return. -/
namespace Go.Proofs.YtnanjacllmdenaaDoor
open Go.RowKit
set_option linter.unusedVariables false

set_option maxHeartbeats 1000000 in
set_option maxRecDepth 100000 in
theorem vperm1_any (S : Sy) (H : Sh) (t : List Vr) (ta : Option Addr) (tc P b o m mc : Nat) (ua : Option Addr) (n0 uc : Nat) (w : World) (hT : Tab w) (hs : szS S = true) (ht : VRw w (.slice ta t.length tc) t)
    (hP : w.cell? ⟨P, 0, none⟩ = some (.slice (some ⟨b, o, none⟩) m mc)) (hm : 0 < m) (hc : w.cell? ⟨b, o, none⟩ = some (.slice ua n0 uc)) :
    Calls Tryd.prog 150 #[syA S H, .slice ta t.length tc, .pointer (some ⟨P, 0, none⟩)] w fun e w' => e = .returned (.bool (tnB S n0 t)) ∧ On w w' := by
  obtain ⟨W0, hW0⟩ : ∃ W0, W0 = w.alloc (syO S H) := ⟨_, rfl⟩
  have hO0 : On w W0 := by rw [hW0]; exact (On.refl hT).alloc _
  have HB0 : Hid (VB w.heap.size W0 (syL S H)) := by rw [hW0]; exact Lib.hid (vb_newS S H w)
  have HP := cell_on hO0 hP
  have HC := cell_on hO0 hc
  have HSY := sy_cells HB0.out
  have HT1 : Hid (Calls Tryd.prog 151 #[syA S H, .slice ta t.length tc, .slice (some ⟨W0.heap.size, 0, none⟩) 2 2] (W0.alloc (.cells #[.int .u8 1, .int .u8 3] 50)) fun e w' => e = .returned (.bool (tuB S [1, 3] t)) ∧ On W0 w') := by
    have hA : On W0 (W0.alloc (.cells #[.int .u8 1, .int .u8 3] 50)) := (On.refl hO0.tab).alloc _
    exact Lib.hid ((vtuple_any S H t _ [1, 3] _ _ hA.tab hs (ht.on (hO0.trans hA)) (kd_lit W0 [1, 3] (by simp))).mono fun e w' ⟨he, ho⟩ => ⟨he, hA.trans ho⟩)
  have e : tnB S n0 t = (decide (t.length = n0) && tuB S [1, 3] t) := rfl
  rw [e]
  have HW0 := Lib.hid hW0; have HO0 := Lib.hid hO0
  have hm2 : (0 : Int) < (m : Int) := by omega
  obtain ⟨s0, s1, s2, s3, s4, s5, s6, s7⟩ := HSY
  clear hT hs ht hP hc hW0 hO0 e HB0
  generalize tuB S [1, 3] t = B at *
  generalize t.length = n at *
  by_cases hn : n = n0
  · subst hn
    have e1 : (decide (n = n) && B) = B := by simp
    rw [e1]; clear e1
    go_enter Tryd.func150, Tryd.ntmps150
    go_upto_region 1 with fail
    rw [← HW0.out]
    go_wp2_with (go_at_call 151; (with_reducible refine HT1.out.mono ?_); rintro e w1 ⟨rfl, hO1⟩)
    go_ret
    exact ⟨rfl, HO0.out.trans hO1⟩
  · have e1 : (decide (n = n0) && B) = false := by simp [hn]
    have e2 : ((n : Int) == (n0 : Int)) = false := beq_no (by omega)
    rw [e1]; clear e1 hn
    go_enter Tryd.func150, Tryd.ntmps150
    go_upto_region 1 with fail
    rw [← HW0.out]
    go_wp2
    go_ret
    exact ⟨rfl, HO0.out⟩
set_option maxHeartbeats 1000000 in
set_option maxRecDepth 100000 in
theorem all_tup (S : Sy) (H : Sh) (P b9 o9 m9 mc : Nat) (ua : Option Addr) (n0 uc : Nat) (l : List (List Vr)) (v : Value) (w : World) (hT : Tab w) (hs : szS S = true) (hV : TupL w v l) (hP : w.cell? ⟨P, 0, none⟩ = some (.slice (some ⟨b9, o9, none⟩) m9 mc)) (hm : 0 < m9) (hc : w.cell? ⟨b9, o9, none⟩ = some (.slice ua n0 uc)) :
    Calls Tryd.prog 148 #[syA S H, v, .func (.func 150) #[] #[.pointer (some ⟨P, 0, none⟩)]] w fun e w' => e = .returned (.bool (l.all (tnB S n0))) ∧ On w w' := by
  obtain ⟨a, cap, rfl⟩ := hV.shape
  have hL := hV.1
  obtain ⟨W0, hW0⟩ : ∃ W0, W0 = w.alloc (syO S H) := ⟨_, rfl⟩
  have hO0 : On w W0 := by rw [hW0]; exact (On.refl hT).alloc _
  obtain ⟨Q, hQ⟩ : ∃ Q, Q = w.heap.size := ⟨_, rfl⟩
  have HB0 : Hid (VB Q W0 (syL S H)) := by rw [hW0, hQ]; exact Lib.hid (vb_newS S H w)
  have HV := Lib.hid hV.cells
  have HW0 := Lib.hid hW0; have HQ := Lib.hid hQ; have HO0 := Lib.hid hO0; have HS := Lib.hid hs
  have HPP := Lib.hid hP; have HMM := Lib.hid hm; have HPC := Lib.hid hc
  clear hP hm hc
  have HNO : Hid (∀ j, j < l.length → (tnB S n0) (l.getD j ([] : List Vr)) = false → l.all (tnB S n0) = false) := fun j hj h => all_no _ ([] : List Vr) l j hj h
  have HYES : Hid ((∀ j, j < l.length → (tnB S n0) (l.getD j ([] : List Vr)) = true) → l.all (tnB S n0) = true) := fun h => (all_getD _ ([] : List Vr) l).2 h
  generalize l.all (tnB S n0) = RR at *
  generalize hn : l.length = n at *
  clear hn hT hs hV hW0 hQ hO0
  go_enter Tryd.func148, Tryd.ntmps148
  go_upto_region 1 with fail
  rw [← HW0.out, ← HQ.out]
  go_wp2_with fail
  go_loopw [11] (fun vi wr => ∃ i : Nat, i ≤ n ∧ vi = .int .i64 (i : Int) ∧ Hid (∀ j, j < i → (tnB S n0) (l.getD j ([] : List Vr)) = true) ∧ Hid (On W0 wr)) (fun vi _ => n - (intOf vi).toNat)
  case atStart => exact ⟨0, Nat.zero_le _, rfl, Lib.hid (fun j hj => absurd hj (Nat.not_lt_zero _)), Lib.hid (On.refl HO0.out.tab)⟩
  case round =>
    rename World => wr
    obtain ⟨i, hi, rfl, HJ, HO⟩ := hrel
    by_cases hlt : i < n
    · have hlt' : (i : Int) < (n : Int) := by omega
      obtain ⟨b, off, rfl, c0⟩ := HV.out i hlt
      try simp only [Nat.mul_one] at c0
      have HJ2 : Hid ((tnB S n0) (l.getD i ([] : List Vr)) = true → ∀ j, j < i + 1 → (tnB S n0) (l.getD j ([] : List Vr)) = true) := fun h j hj => by
        by_cases e : j = i
        · rw [e]; exact h
        · exact HJ.out j (by omega)
      have HN := Lib.hid (HNO.out i hlt)
      have HOQ : On w wr := HO0.out.trans HO.out
      obtain ⟨u, d0, d1⟩ := c0
      obtain ⟨ta, tc, rfl⟩ := d1.shape
      have e0 := cell_on HOQ d0
      clear d0
      have HSY := sy_cells (HB0.out.on HO.out)
      obtain ⟨s0, s1, s2, s3, s4, s5, s6, s7⟩ := HSY
      have HCB : Hid (Calls Tryd.prog 150 #[syA S H, .slice ta (l.getD i []).length tc, .pointer (some ⟨P, 0, none⟩)] wr fun e w' => e = .returned (.bool (tnB S n0 (l.getD i []))) ∧ On wr w') := Lib.hid (vperm1_any S H _ ta tc P b9 o9 m9 mc ua n0 uc wr HO.out.tab HS.out (d1.on HOQ) (cell_on HOQ HPP.out) HMM.out (cell_on HOQ HPC.out))
      clear d1
      generalize (l.getD i ([] : List Vr)).length = ln at *
      clear HJ HOQ
      generalize (tnB S n0) (l.getD i ([] : List Vr)) = BB at *
      generalize l.getD i ([] : List Vr) = x at *
      cases BB with
      | false =>
        have HF := Lib.hid (HN.out rfl)
        go_wp2_with (go_at_call 150; (with_reducible refine HCB.out.mono ?_); rintro e wy ⟨rfl, hOy⟩)
        go_ret
        exact ⟨by rw [HF.out]; rfl, HO0.out.trans (HO.out.trans hOy)⟩
      | true =>
        have HF := Lib.hid (HJ2.out rfl)
        go_wp2_with (go_at_call 150; (with_reducible refine HCB.out.mono ?_); rintro e wy ⟨rfl, hOy⟩)
        have hOz : Hid (On W0 wy) := Lib.hid (HO.out.trans hOy)
        clear hOy
        go_roundw
        case rel => exact ⟨i + 1, by omega, by simp, HF, hOz⟩
        case measure => simp [intOf]; omega
    · obtain rfl : n = i := by omega
      have HG := Lib.hid (HYES.out HJ.out)
      have hOz := HO0.out.trans HO.out
      clear HJ
      go_wp2
      go_ret
      exact ⟨by rw [HG.out]; rfl, hOz⟩

/-- The headers of a list of tuples. -/
theorem tup_hdrs {w : World} {a : Option Addr} {c : Nat} {l : List (List Vr)} (h : TupL w (.slice a l.length c) l) :
    ∃ us : List Value, us.length = l.length ∧ HdR w a us ∧ ∀ i, i < l.length → VRw w (us.getD i (.slice none 0 0)) (l.getD i []) := by
  rcases Nat.eq_zero_or_pos l.length with h0 | h0
  · exact ⟨[], by simp [h0], ⟨by simp, fun h => by simp at h⟩, fun i hi => by omega⟩
  obtain ⟨b, off, rfl, _⟩ := h.cells 0 h0
  have hc : ∀ i, i < l.length → ∃ u, w.cell? ⟨b, off + i, none⟩ = some u ∧ VRw w u (l.getD i []) := fun i hi => by
    obtain ⟨b', off', e, u, h1, h2⟩ := h.cells i hi
    simp only [Option.some.injEq, Addr.mk.injEq, and_true] at e
    obtain ⟨rfl, rfl⟩ := e
    rw [Nat.mul_one] at h1
    exact ⟨u, h1, h2⟩
  refine ⟨(List.range l.length).map (fun i => (w.cell? ⟨b, off + i, none⟩).getD (.slice none 0 0)), by simp, ⟨?_, ?_⟩, ?_⟩
  · intro u hu
    obtain ⟨i, hi, rfl⟩ := List.mem_map.1 hu
    obtain ⟨u, h1, h2⟩ := hc i (List.mem_range.1 hi)
    obtain ⟨ua, uc, e⟩ := h2.shape
    rw [h1, e]; rfl
  · intro _
    obtain ⟨u, h1, _⟩ := hc 0 h0
    refine ⟨_, rfl, by have := cell_size h1; simpa using this, fun i u hi => ?_⟩
    rw [List.getElem?_map] at hi
    rcases Nat.lt_or_ge i l.length with hl | hl
    · rw [List.getElem?_range hl] at hi
      obtain ⟨v, h1, _⟩ := hc i hl
      simp only [Option.map_some, Option.some.injEq] at hi
      rw [h1] at hi
      have e1 : (⟨b, off, none⟩ : Addr).add i = ⟨b, off + i, none⟩ := by unfold Addr.add; split <;> simp_all
      rw [e1, h1]
      simp only [Option.getD_some] at hi
      rw [hi]
    · rw [List.getElem?_eq_none (by simpa using hl)] at hi; simp at hi
  · intro i hi
    obtain ⟨v, h1, h2⟩ := hc i hi
    rw [List.getD_eq_getElem?_getD, List.getElem?_map, List.getElem?_range hi]
    simp only [Option.map_some, Option.getD_some, h1]
    exact h2
set_option maxHeartbeats 2000000 in
set_option maxRecDepth 100000 in
theorem vperm_any (S : Sy) (H : Sh) (p : Pm) (pa qa : Option Addr) (pc qc : Nat) (w : World) (hT : Tab w) (hs : szS S = true) (hp : TupL w (.slice pa p.1.length pc) p.1) (hq : TupL w (.slice qa p.2.length qc) p.2) :
    Calls Tryd.prog 104 #[syA S H, .agg #[.slice pa p.1.length pc, .slice qa p.2.length qc]] w fun e w' => e = .returned (.bool (pmB S p)) ∧ On w w' := by
  obtain ⟨W0, hW0⟩ : ∃ W0, W0 = (w.alloc (syO S H)).alloc (.cells #[.slice pa p.1.length pc, .slice qa p.2.length qc] 56) := ⟨_, rfl⟩
  have hO0 : On w W0 := by rw [hW0]; exact ((On.refl hT).alloc _).alloc _
  have HB0 : Hid (VB w.heap.size W0 (syL S H)) := by rw [hW0]; exact Lib.hid ((vb_newS S H w).on ((On.refl ((On.refl hT).alloc _).tab).alloc _))
  have HB1 : Hid (VB (w.heap.size + 1) W0 [.slice pa p.1.length pc, .slice qa p.2.length qc]) := by
    have h := vb_new (w.alloc (syO S H)) #[.slice pa p.1.length pc, .slice qa p.2.length qc] 56
    rw [World.size_alloc] at h
    rw [hW0]; exact Lib.hid h
  have HOK : Hid (On W0 W0) := On.refl hO0.tab
  have HSY : Hid (∀ u, On W0 u → _) := fun u h => sy_cells (HB0.out.on h)
  have HPB : Hid (∀ u, On W0 u → u.cell? ⟨w.heap.size + 1, 0, none⟩ = some (.slice pa p.1.length pc) ∧ u.cell? ⟨w.heap.size + 1, 1, none⟩ = some (.slice qa p.2.length qc)) := fun u h => ⟨(HB1.out.on h).2.1 0 _ rfl, (HB1.out.on h).2.1 1 _ rfl⟩
  have HWI := Lib.hid (fun u => within_any (p.1.length : Int) 1 4 u)
  have HPM : pmB S p = (decide (1 ≤ p.1.length ∧ p.1.length ≤ 4) && (decide (p.2.length = p.1.length) && (p.1 ++ p.2).all (tnB S (p.1.getD 0 []).length))) := rfl
  have HALL0 : Hid (p.2.length = p.1.length → 0 < p.1.length → p.1.length ≤ 4 → (∃ N : Value → World → Prop, Calls Tryd.prog 149 #[.slice (some ⟨W0.heap.size, 0, none⟩) 2 2] ((W0.alloc (.cells #[.slice pa p.1.length pc, .slice qa p.2.length qc] 54)).drew) (fun e w' => (∃ u, e = .returned u ∧ N u w') ∧ On ((W0.alloc (.cells #[.slice pa p.1.length pc, .slice qa p.2.length qc] 54)).drew) w') ∧
      ∀ (w2 : World) (u : Value), On ((W0.alloc (.cells #[.slice pa p.1.length pc, .slice qa p.2.length qc] 54)).drew) w2 → N u w2 → Calls Tryd.prog 148 #[syA S H, u, .func (.func 150) #[] #[.pointer (some ⟨w.heap.size + 1, 0, none⟩)]] w2 fun e w' => e = .returned (.bool ((p.1 ++ p.2).all (tnB S (p.1.getD 0 []).length))) ∧ On w2 w')) := fun hlen h0 h4 => by
    obtain ⟨us, hul, hur, huv⟩ := tup_hdrs hp
    obtain ⟨vs, hvl, hvr, hvv⟩ := tup_hdrs hq
    have hOb : On W0 ((W0.alloc (.cells #[.slice pa p.1.length pc, .slice qa p.2.length qc] 54)).drew) := ((On.refl hO0.tab).alloc _).drew
    have hb := (vb_new W0 #[.slice pa p.1.length pc, .slice qa p.2.length qc] 54).on (On.refl ((On.refl hO0.tab).alloc _).tab).drew
    have hwb := hO0.trans hOb
    have hU : ULs ((W0.alloc (.cells #[.slice pa p.1.length pc, .slice qa p.2.length qc] 54)).drew) (.slice (some ⟨W0.heap.size, 0, none⟩) 2 2) 2 (fun j => if j = 0 then us else vs) := by
      refine ⟨_, 2, rfl, by omega, fun j hj => ?_⟩
      rcases (show j = 0 ∨ j = 1 by omega) with rfl | rfl
      · refine ⟨_, 0, pa, pc, rfl, ?_, ?_⟩
        · have h := hb.2.1 0 _ rfl
          simp only [if_true, hul]; exact h
        · simp only [if_true]; exact hur.on hwb
      · refine ⟨_, 0, qa, qc, rfl, ?_, ?_⟩
        · have h := hb.2.1 1 _ rfl
          simp only [show ¬ (1 = 0) by omega, if_false, hvl]; exact h
        · simp only [show ¬ (1 = 0) by omega, if_false]; exact hvr.on hwb
    have hcat : catU (fun j => if j = 0 then us else vs) 2 = us ++ vs := by simp [catU]
    have hcl : (us ++ vs).length = (p.1 ++ p.2).length := by simp [hul, hvl]
    have hC := concatt_any _ 2 _ _ hOb.tab hU (by rw [hcat, hcl, List.length_append]; omega)
    rw [hcat, hcl] at hC
    refine ⟨_, hC, fun w2 u hO2 hown => ?_⟩
    have hw2 := hwb.trans hO2
    have hTup : TupL w2 u (p.1 ++ p.2) := own_sld ([] : List Vr) RTup hown rfl (by rw [List.length_append]; omega) fun g i x hi hx hc => by
      refine ⟨x, hc, ?_⟩
      rcases Nat.lt_or_ge i us.length with hl | hl
      · rw [List.getElem?_append_left hl] at hx
        have h := huv i (by omega)
        rw [List.getD_eq_getElem?_getD, hx] at h
        rw [List.getD_eq_getElem?_getD, List.getElem?_append_left (by omega), ← List.getD_eq_getElem?_getD]
        exact h.on hw2
      · rw [List.getElem?_append_right hl] at hx
        have h := hvv (i - us.length) (by rw [List.length_append] at hi; omega)
        rw [List.getD_eq_getElem?_getD, hx] at h
        rw [List.getD_eq_getElem?_getD, List.getElem?_append_right (by omega), ← hul, ← List.getD_eq_getElem?_getD]
        exact h.on hw2
    obtain ⟨b, off, epa, u0, c0, c1⟩ := hp.cells 0 h0
    obtain ⟨ua, uc, rfl⟩ := c1.shape
    have hP2 := (HPB.out w2 (hOb.trans hO2)).1
    rw [epa] at hP2
    exact all_tup S H (w.heap.size + 1) b off p.1.length pc ua (p.1.getD 0 []).length uc (p.1 ++ p.2) u w2 hO2.tab hs hTup hP2 h0 (by have := cell_on hw2 c0; simpa using this)
  rw [HPM]
  have HW0 := Lib.hid hW0; have HO0 := Lib.hid hO0
  obtain ⟨P, hPe⟩ : ∃ P, P = w.heap.size + 1 := ⟨_, rfl⟩
  rw [← hPe] at HPB HALL0
  have HPE := Lib.hid hPe
  clear hT hs hp hq hW0 hO0 HPM HB0 HB1 hPe
  generalize (p.1 ++ p.2).all (tnB S (p.1.getD 0 []).length) = AA at *
  obtain ⟨p1, p2⟩ := p
  simp only at HW0 HPB HWI HALL0 ⊢
  generalize p1.length = n at *
  generalize p2.length = m at *
  have e0 : decide (1 ≤ n ∧ n ≤ 4) = decide ((1 : Int) ≤ (n : Int) ∧ (n : Int) ≤ 4) := decide_eq_decide.2 (by omega)
  rw [e0]; clear e0
  by_cases h14 : (1 : Int) ≤ (n : Int) ∧ (n : Int) ≤ 4
  rotate_left
  · have e1 : decide ((1 : Int) ≤ (n : Int) ∧ (n : Int) ≤ 4) = false := decide_eq_false h14
    rw [e1] at HWI ⊢
    clear e1 h14
    go_enter Tryd.func104, Tryd.ntmps104
    go_upto_region 1 with fail
    rw [← HW0.out]
    have hO9 := HOK.out
    obtain ⟨l0, l1⟩ := HPB.out _ hO9
    rw [HPE.out] at l0 l1
    clear hO9
    go_wp2_with (go_at_call 144; (with_reducible refine (HWI.out _).mono ?_); rintro e w1 ⟨rfl, rfl⟩)
    go_ret
    exact ⟨rfl, HO0.out⟩
  · have e1 : decide ((1 : Int) ≤ (n : Int) ∧ (n : Int) ≤ 4) = true := decide_eq_true h14
    rw [e1] at HWI ⊢
    have hn0 : 0 < n := by omega
    have hn4 : n ≤ 4 := by omega
    clear e1 h14
    by_cases hmn : m = n
    rotate_left
    · have e1 : (true && (decide (m = n) && AA)) = false := by simp [hmn]
      have e2 : ((m : Int) != (n : Int)) = true := by simp; omega
      rw [e1]; clear e1 hmn
      go_enter Tryd.func104, Tryd.ntmps104
      go_upto_region 1 with fail
      rw [← HW0.out]
      obtain ⟨l0, l1⟩ := HPB.out _ HOK.out
      rw [HPE.out] at l0 l1
      go_wp2_with (go_at_call 144; (with_reducible refine (HWI.out _).mono ?_); rintro e w1 ⟨rfl, rfl⟩)
      go_ret
      exact ⟨rfl, HO0.out⟩
    · obtain rfl : n = m := hmn.symm
      have e1 : (true && (decide (n = n) && AA)) = AA := by simp
      rw [e1]; clear e1
      obtain ⟨N, HCC, HALL⟩ := HALL0.out rfl hn0 hn4
      have HCC := Lib.hid HCC; have HALL := Lib.hid HALL
      clear HALL0
      go_enter Tryd.func104, Tryd.ntmps104
      go_upto_region 1 with fail
      rw [← HW0.out]
      obtain ⟨l0, l1⟩ := HPB.out _ HOK.out
      rw [HPE.out] at l0 l1
      go_upto_region 3 with (go_at_call 144; (with_reducible refine (HWI.out _).mono ?_); rintro e w1 ⟨rfl, rfl⟩)
      rw [← HPE.out]
      refine region_head_tail (S := fun wq => On W0 wq) 9 (by kernel_rfl) (by kernel_rfl) ?_
      have hOd : On W0 W0.drew := (On.refl HOK.out.tab).drew
      have hOb : On W0 ((W0.alloc (.cells #[.slice pa n pc, .slice qa n qc] 54)).drew) := ((On.refl HOK.out.tab).alloc _).drew
      refine HeadG.take (i := 0) (v := syA S H) rfl (by kernel_rfl) (by kernel_rfl) (by kernel_rfl) (by kernel_rfl) (by kernel_rfl) (by kernel_rfl) (by kernel_rfl) (fun _ _ _ h => h) (Or.inl ⟨by kernel_rfl, ?hdy1x0⟩) hOd ?hdr1x0
      case hdy1x0 => (intro w' hSw; obtain ⟨s0, s1, s2, s3, s4, s5, s6, s7⟩ := HSY.out w' hSw; go_simp; try with_reducible rfl)
      try simp only [Act.put, List.setIfInBounds_toArray, List.set_cons_zero, List.set_cons_succ, List.getElem_toArray, List.getElem_cons_succ, List.getElem_cons_zero]
      refine HeadG.take (i := 1) (v := ?hdv2x1) rfl (by kernel_rfl) (by kernel_rfl) (by kernel_rfl) (by kernel_rfl) (by kernel_rfl) (by kernel_rfl) (by kernel_rfl) (fun _ _ _ h => h) (Or.inl ⟨by kernel_rfl, ?hdy2x1⟩) hOd ?hdr2x1
      case hdy2x1 => (intro w' hSw; skip; go_simp; try with_reducible rfl)
      try simp only [Act.put, List.setIfInBounds_toArray, List.set_cons_zero, List.set_cons_succ, List.getElem_toArray, List.getElem_cons_succ, List.getElem_cons_zero]
      refine HeadG.take (i := 2) (v := .slice pa n pc) rfl (by kernel_rfl) (by kernel_rfl) (by kernel_rfl) (by kernel_rfl) (by kernel_rfl) (by kernel_rfl) (by kernel_rfl) (fun _ _ _ h => h) (Or.inl ⟨by kernel_rfl, ?hdy3x2⟩) hOd ?hdr3x2
      case hdy3x2 => (intro w' hSw; obtain ⟨l0, l1⟩ := HPB.out w' hSw; go_simp; try with_reducible rfl)
      try simp only [Act.put, List.setIfInBounds_toArray, List.set_cons_zero, List.set_cons_succ, List.getElem_toArray, List.getElem_cons_succ, List.getElem_cons_zero]
      refine HeadG.take (i := 3) (v := ?hdv4x3) rfl (by kernel_rfl) (by kernel_rfl) (by kernel_rfl) (by kernel_rfl) (by kernel_rfl) (by kernel_rfl) (by kernel_rfl) (fun _ _ _ h => h) (Or.inl ⟨by kernel_rfl, ?hdy4x3⟩) hOd ?hdr4x3
      case hdy4x3 => (intro w' hSw; skip; go_simp; try with_reducible rfl)
      try simp only [Act.put, List.setIfInBounds_toArray, List.set_cons_zero, List.set_cons_succ, List.getElem_toArray, List.getElem_cons_succ, List.getElem_cons_zero]
      refine HeadG.take (i := 4) (v := .slice qa n qc) rfl (by kernel_rfl) (by kernel_rfl) (by kernel_rfl) (by kernel_rfl) (by kernel_rfl) (by kernel_rfl) (by kernel_rfl) (fun _ _ _ h => h) (Or.inl ⟨by kernel_rfl, ?hdy5x4⟩) hOd ?hdr5x4
      case hdy5x4 => (intro w' hSw; obtain ⟨l0, l1⟩ := HPB.out w' hSw; go_simp; try with_reducible rfl)
      try simp only [Act.put, List.setIfInBounds_toArray, List.set_cons_zero, List.set_cons_succ, List.getElem_toArray, List.getElem_cons_succ, List.getElem_cons_zero]
      refine HeadG.take (i := 7) (v := ?hdv6x7) rfl (by kernel_rfl) (by kernel_rfl) (by kernel_rfl) (by kernel_rfl) (by kernel_rfl) (by kernel_rfl) (by kernel_rfl) (fun _ _ _ h => h) (Or.inl ⟨by kernel_rfl, ?hdy6x7⟩) hOd ?hdr6x7
      case hdy6x7 => (intro w' hSw; skip; go_simp; try with_reducible rfl)
      try simp only [Act.put, List.setIfInBounds_toArray, List.set_cons_zero, List.set_cons_succ, List.getElem_toArray, List.getElem_cons_succ, List.getElem_cons_zero]
      refine HeadG.one (i := 5) rfl (by kernel_rfl) (by kernel_rfl) (fun K9 hK9 => ?_)
      go_simp
      refine hK9.out _ _ hOb ?_
      clear hK9 K9
      try simp only [Act.put, List.setIfInBounds_toArray, List.set_cons_zero, List.set_cons_succ, List.getElem_toArray, List.getElem_cons_succ, List.getElem_cons_zero]
      refine HeadG.one (i := 6) rfl (by kernel_rfl) (by kernel_rfl) (fun K9 hK9 => ?_)
      go_simp
      go_at_call 149
      (with_reducible refine HCC.out.mono ?_)
      rintro e w2 ⟨⟨u, rfl, hown⟩, hO2⟩
      have hP2 : On W0 w2 := hOb.trans hO2
      refine hK9.out _ _ hP2 ?_
      clear hK9 K9
      try simp only [Act.put, List.setIfInBounds_toArray, List.set_cons_zero, List.set_cons_succ, List.getElem_toArray, List.getElem_cons_succ, List.getElem_cons_zero]
      have HA2 := Lib.hid (HALL.out w2 u hO2 hown)
      refine HeadG.one (i := 8) rfl (by kernel_rfl) (by kernel_rfl) (fun K9 hK9 => ?_)
      go_simp
      go_at_call 148
      (with_reducible refine HA2.out.mono ?_)
      rintro e w3 ⟨rfl, hO3⟩
      have hP3 : On W0 w3 := hP2.trans hO3
      refine hK9.out _ _ hP3 ?_
      clear hK9 K9
      try simp only [Act.put, List.setIfInBounds_toArray, List.set_cons_zero, List.set_cons_succ, List.getElem_toArray, List.getElem_cons_succ, List.getElem_cons_zero]
      refine HeadG.last (i := 9) rfl (by kernel_rfl) (by kernel_rfl) (by kernel_rfl) (fun K9 hK9 => ?_)
      go_simp
      refine hK9.out _ _ ?_
      clear hK9 K9
      try simp only [Act.put, List.setIfInBounds_toArray, List.set_cons_zero, List.set_cons_succ, List.getElem_toArray, List.getElem_cons_succ, List.getElem_cons_zero]
      go_wp2
      go_ret
      exact ⟨rfl, HO0.out.trans hP3⟩
end Go.Proofs.YtnanjacllmdenaaDoor

/- Package system: all rules, all permutations: what the calls return. -/
namespace Go.Proofs.YtnanjacllmdenaaDoor
open Go.RowKit
set_option linter.unusedVariables false

set_option maxHeartbeats 1000000 in
set_option maxRecDepth 100000 in
theorem all_perm (S : Sy) (H : Sh) (l : List Pm) (v : Value) (w : World) (hT : Tab w) (hs : szS S = true) (hV : PmL w v l) :
    Calls Tryd.prog 103 #[syA S H, v, .func (.func 104) #[] #[]] w fun e w' => e = .returned (.bool (l.all (pmB S))) ∧ On w w' := by
  obtain ⟨a, cap, rfl⟩ := hV.shape
  have hL := hV.1
  obtain ⟨W0, hW0⟩ : ∃ W0, W0 = w.alloc (syO S H) := ⟨_, rfl⟩
  have hO0 : On w W0 := by rw [hW0]; exact (On.refl hT).alloc _
  obtain ⟨Q, hQ⟩ : ∃ Q, Q = w.heap.size := ⟨_, rfl⟩
  have HB0 : Hid (VB Q W0 (syL S H)) := by rw [hW0, hQ]; exact Lib.hid (vb_newS S H w)
  have HV := Lib.hid hV.cells
  have HW0 := Lib.hid hW0; have HQ := Lib.hid hQ; have HO0 := Lib.hid hO0; have HS := Lib.hid hs
  have HNO : Hid (∀ j, j < l.length → (pmB S) (l.getD j zPm) = false → l.all (pmB S) = false) := fun j hj h => all_no _ zPm l j hj h
  have HYES : Hid ((∀ j, j < l.length → (pmB S) (l.getD j zPm) = true) → l.all (pmB S) = true) := fun h => (all_getD _ zPm l).2 h
  generalize l.all (pmB S) = RR at *
  generalize hn : l.length = n at *
  clear hn hT hs hV hW0 hQ hO0
  go_enter Tryd.func103, Tryd.ntmps103
  go_upto_region 1 with fail
  rw [← HW0.out, ← HQ.out]
  go_wp2_with fail
  go_loopw [11] (fun vi wr => ∃ i : Nat, i ≤ n ∧ vi = .int .i64 (i : Int) ∧ Hid (∀ j, j < i → (pmB S) (l.getD j zPm) = true) ∧ Hid (On W0 wr)) (fun vi _ => n - (intOf vi).toNat)
  case atStart => exact ⟨0, Nat.zero_le _, rfl, Lib.hid (fun j hj => absurd hj (Nat.not_lt_zero _)), Lib.hid (On.refl HO0.out.tab)⟩
  case round =>
    rename World => wr
    obtain ⟨i, hi, rfl, HJ, HO⟩ := hrel
    by_cases hlt : i < n
    · have hlt' : (i : Int) < (n : Int) := by omega
      obtain ⟨b, off, rfl, c0⟩ := HV.out i hlt
      try simp only [Nat.mul_one] at c0
      have HJ2 : Hid ((pmB S) (l.getD i zPm) = true → ∀ j, j < i + 1 → (pmB S) (l.getD j zPm) = true) := fun h j hj => by
        by_cases e : j = i
        · rw [e]; exact h
        · exact HJ.out j (by omega)
      have HN := Lib.hid (HNO.out i hlt)
      have HOQ : On w wr := HO0.out.trans HO.out
      obtain ⟨u, u', d0, d1, d2, d3⟩ := c0
      obtain ⟨pa, pc, rfl⟩ := d2.shape
      obtain ⟨qa, qc, rfl⟩ := d3.shape
      have e0 := cell_on HOQ d0
      have e1 := cell_on HOQ d1
      clear d0 d1
      have HSY := sy_cells ((HB0.out.on HO.out).on ((On.refl HO.out.tab).alloc (.cells #[.slice pa (l.getD i zPm).1.length pc, .slice qa (l.getD i zPm).2.length qc] 56)))
      obtain ⟨s0, s1, s2, s3, s4, s5, s6, s7⟩ := HSY
      have HCB : Hid (Calls Tryd.prog 104 #[syA S H, .agg #[.slice pa (l.getD i zPm).1.length pc, .slice qa (l.getD i zPm).2.length qc]] (wr.alloc (.cells #[.slice pa (l.getD i zPm).1.length pc, .slice qa (l.getD i zPm).2.length qc] 56)) fun e w' => e = .returned (.bool (pmB S (l.getD i zPm))) ∧ On (wr.alloc (.cells #[.slice pa (l.getD i zPm).1.length pc, .slice qa (l.getD i zPm).2.length qc] 56)) w') := by
        have hA := (On.refl HO.out.tab).alloc (.cells #[.slice pa (l.getD i zPm).1.length pc, .slice qa (l.getD i zPm).2.length qc] 56)
        exact Lib.hid (vperm_any S H (l.getD i zPm) pa qa pc qc _ hA.tab HS.out (TupL.on d2 (HOQ.trans hA)) (TupL.on d3 (HOQ.trans hA)))
      clear d2 d3
      generalize (l.getD i zPm).1.length = ln at *
      generalize (l.getD i zPm).2.length = lm at *
      clear HJ HOQ
      generalize (pmB S) (l.getD i zPm) = BB at *
      generalize l.getD i zPm = x at *
      cases BB with
      | false =>
        have HF := Lib.hid (HN.out rfl)
        go_wp2_with (go_at_call 104; (with_reducible refine HCB.out.mono ?_); rintro e wy ⟨rfl, hOy⟩)
        go_ret
        exact ⟨by rw [HF.out]; rfl, HO0.out.trans (HO.out.trans (((On.refl HO.out.tab).alloc _).trans hOy))⟩
      | true =>
        have HF := Lib.hid (HJ2.out rfl)
        go_wp2_with (go_at_call 104; (with_reducible refine HCB.out.mono ?_); rintro e wy ⟨rfl, hOy⟩)
        have hOz : Hid (On W0 wy) := Lib.hid (HO.out.trans (((On.refl HO.out.tab).alloc _).trans hOy))
        clear hOy
        go_roundw
        case rel => exact ⟨i + 1, by omega, by simp, HF, hOz⟩
        case measure => simp [intOf]; omega
    · obtain rfl : n = i := by omega
      have HG := Lib.hid (HYES.out HJ.out)
      have hOz := HO0.out.trans HO.out
      clear HJ
      go_wp2
      go_ret
      exact ⟨by rw [HG.out]; rfl, hOz⟩
set_option maxHeartbeats 1000000 in
set_option maxRecDepth 100000 in
theorem vrule1_any (S : Sy) (H : Sh) (ks : List Int) (kv : Value) (X : Nat) (m : Mo) (ua : Option Addr) (uc : Nat) (w : World) (hT : Tab w) (hs : szS S = true) (hm : m.1 ≤ 18446744073709551615) (hV : VRw w (.slice ua m.2.length uc) m.2) (hX : w.cell? ⟨X, 0, none⟩ = some kv) (hK : KdL w kv ks) :
    Calls Tryd.prog 146 #[syA S H, .agg #[.int .u64 ((m.1 : Nat) : Int), .slice ua m.2.length uc], .pointer (some ⟨X, 0, none⟩)] w fun e w' => e = .returned (.bool (moB S ks m)) ∧ On w w' := by
  obtain ⟨W0, hW0⟩ : ∃ W0, W0 = (w.alloc (syO S H)).alloc (.cells #[.int .u64 ((m.1 : Nat) : Int), .slice ua m.2.length uc] 78) := ⟨_, rfl⟩
  have hO0 : On w W0 := by rw [hW0]; exact ((On.refl hT).alloc _).alloc _
  have hB0 : VB w.heap.size W0 (syL S H) := by rw [hW0]; exact (vb_newS S H w).on ((On.refl ((On.refl hT).alloc _).tab).alloc _)
  have hB1 : VB (w.heap.size + 1) W0 [.int .u64 ((m.1 : Nat) : Int), .slice ua m.2.length uc] := by
    have h := vb_new (w.alloc (syO S H)) #[.int .u64 ((m.1 : Nat) : Int), .slice ua m.2.length uc] 78
    rw [World.size_alloc] at h
    rw [hW0]; exact h
  have hA1 : On W0 (W0.alloc (.cells #[.int .u64 ((m.1 : Nat) : Int)] 42)) := (On.refl hO0.tab).alloc _
  have hO1 := hO0.trans hA1
  have hIS := is_any S.f [m.1] _ (W0.alloc (.cells #[.int .u64 ((m.1 : Nat) : Int)] 42)) hA1.tab (rd_lit W0 m.1 hm)
  have e0 : isF S.f [m.1] = decide (m.1 < pOf S.f) := by
    unfold isF; rw [(szS_facts hs).1]; simp
  rw [e0] at hIS
  have HHAS := Lib.hid (has_any S H m.2 _ ks kv (W0.alloc (.cells #[.int .u64 ((m.1 : Nat) : Int)] 42)) hA1.tab hs (hV.on hO1) (hK.on hO1))
  have HIS := Lib.hid hIS
  obtain ⟨s0, s1, s2, s3, s4, s5, s6, s7⟩ := sy_cells (hB0.on hA1)
  have l0 := (hB1.on hA1).2.1 0 _ rfl; have l1 := (hB1.on hA1).2.1 1 _ rfl
  have t0 := (sy_cells hB0).1
  have t1 := hB1.2.1 0 _ rfl
  have x0 := cell_on hO1 hX
  have e : moB S ks m = (decide (m.1 < pOf S.f) && decide (m.2.length ≤ 8) && m.2.all (hasK S ks)) := rfl
  rw [e]
  obtain ⟨ka, kc, rfl⟩ := hK.shape
  have HW0 := Lib.hid hW0; have HO1 := Lib.hid hO1
  clear hT hs hm hV hX hK hW0 hO0 hB0 hB1 hO1 hIS e e0 hA1
  generalize m.2.all (hasK S ks) = C at *
  generalize decide (m.1 < pOf S.f) = B at *
  generalize ks.length = kn at *
  obtain ⟨c, vs⟩ := m
  simp only at HW0 HO1 HHAS HIS s0 s1 s2 s3 s4 s5 s6 s7 l0 l1 t1 x0 ⊢
  generalize vs.length = n at *
  by_cases hn : n ≤ 8
  · have hn' : (n : Int) ≤ 8 := by omega
    have e : decide (n ≤ 8) = true := decide_eq_true hn
    rw [e]; clear e
    cases B <;> cases C
    all_goals (go_enter Tryd.func146, Tryd.ntmps146
               go_upto_region 1 with fail
               rw [← HW0.out]
               go_wp2_with (first
                 | (go_at_call 53; (with_reducible refine HIS.out.mono ?_); rintro e w1 ⟨rfl, rfl⟩)
                 | (go_at_call 147; (with_reducible refine HHAS.out.mono ?_); rintro e w2 ⟨rfl, hO2⟩)
                 | fail)
               go_ret
               first | exact ⟨rfl, HO1.out.trans hO2⟩ | exact ⟨rfl, HO1.out⟩ | fail)
  · have hn' : ¬ (n : Int) ≤ 8 := by omega
    have e : decide (n ≤ 8) = false := decide_eq_false hn
    have e1 : (B && false && C) = false := by simp
    rw [e, e1]; clear e e1
    cases B
    all_goals (go_enter Tryd.func146, Tryd.ntmps146
               go_upto_region 1 with fail
               rw [← HW0.out]
               go_wp2_with (go_at_call 53; (with_reducible refine HIS.out.mono ?_); rintro e w1 ⟨rfl, rfl⟩)
               go_ret
               first | exact ⟨by simp [hn'], HO1.out⟩ | exact ⟨rfl, HO1.out⟩ | fail)
theorem MoL_of {w : World} {v : Value} {s : List Mo} (h : MRw w v s) : SLd zM 2 (fun w b o m => (w.cell? ⟨b, o, none⟩ = some (.int .u64 ((m.1 : Nat) : Int)) ∧ m.1 ≤ 18446744073709551615) ∧ ∃ u, w.cell? ⟨b, o + 1, none⟩ = some u ∧ VRw w u m.2) w v s := by
  obtain ⟨hU, hL, h1 | ⟨b, off, cap, rfl, hc⟩⟩ := h
  · exact ⟨hL, .inl h1⟩
  · refine ⟨hL, .inr ⟨b, off, cap, rfl, fun i hi => ⟨⟨(hc i hi).1, ?_⟩, (hc i hi).2⟩⟩⟩
    rw [List.getD_eq_getElem?_getD, List.getElem?_eq_getElem hi]; exact hU _ (List.getElem_mem _)
def RMo (w : World) (b o : Nat) (m : Mo) : Prop := (w.cell? ⟨b, o, none⟩ = some (.int .u64 ((m.1 : Nat) : Int)) ∧ m.1 ≤ 18446744073709551615) ∧ ∃ u, w.cell? ⟨b, o + 1, none⟩ = some u ∧ VRw w u m.2
abbrev MoL := SLd zM 2 RMo
theorem MRw.mol {w : World} {v : Value} {s : List Mo} (h : MRw w v s) : MoL w v s := MoL_of h
set_option maxHeartbeats 1000000 in
set_option maxRecDepth 100000 in
theorem all_mono (S : Sy) (H : Sh) (ks : List Int) (kv : Value) (X : Nat) (l : List Mo) (v : Value) (w : World) (hT : Tab w) (hs : szS S = true) (hV : MoL w v l) (hX : w.cell? ⟨X, 0, none⟩ = some kv) (hK : KdL w kv ks) :
    Calls Tryd.prog 145 #[syA S H, v, .func (.func 146) #[] #[.pointer (some ⟨X, 0, none⟩)]] w fun e w' => e = .returned (.bool (l.all (moB S ks))) ∧ On w w' := by
  obtain ⟨a, cap, rfl⟩ := hV.shape
  have hL := hV.1
  obtain ⟨W0, hW0⟩ : ∃ W0, W0 = w.alloc (syO S H) := ⟨_, rfl⟩
  have hO0 : On w W0 := by rw [hW0]; exact (On.refl hT).alloc _
  obtain ⟨Q, hQ⟩ : ∃ Q, Q = w.heap.size := ⟨_, rfl⟩
  have HB0 : Hid (VB Q W0 (syL S H)) := by rw [hW0, hQ]; exact Lib.hid (vb_newS S H w)
  have HV := Lib.hid hV.cells
  have HW0 := Lib.hid hW0; have HQ := Lib.hid hQ; have HO0 := Lib.hid hO0; have HS := Lib.hid hs
  have HXX := Lib.hid hX; have HKK := Lib.hid hK
  clear hX hK
  have HNO : Hid (∀ j, j < l.length → (moB S ks) (l.getD j zM) = false → l.all (moB S ks) = false) := fun j hj h => all_no _ zM l j hj h
  have HYES : Hid ((∀ j, j < l.length → (moB S ks) (l.getD j zM) = true) → l.all (moB S ks) = true) := fun h => (all_getD _ zM l).2 h
  generalize l.all (moB S ks) = RR at *
  generalize hn : l.length = n at *
  clear hn hT hs hV hW0 hQ hO0
  go_enter Tryd.func145, Tryd.ntmps145
  go_upto_region 1 with fail
  rw [← HW0.out, ← HQ.out]
  go_wp2_with fail
  go_loopw [11] (fun vi wr => ∃ i : Nat, i ≤ n ∧ vi = .int .i64 (i : Int) ∧ Hid (∀ j, j < i → (moB S ks) (l.getD j zM) = true) ∧ Hid (On W0 wr)) (fun vi _ => n - (intOf vi).toNat)
  case atStart => exact ⟨0, Nat.zero_le _, rfl, Lib.hid (fun j hj => absurd hj (Nat.not_lt_zero _)), Lib.hid (On.refl HO0.out.tab)⟩
  case round =>
    rename World => wr
    obtain ⟨i, hi, rfl, HJ, HO⟩ := hrel
    by_cases hlt : i < n
    · have hlt' : (i : Int) < (n : Int) := by omega
      obtain ⟨b, off, rfl, c0⟩ := HV.out i hlt
      try simp only [Nat.mul_one] at c0
      have HJ2 : Hid ((moB S ks) (l.getD i zM) = true → ∀ j, j < i + 1 → (moB S ks) (l.getD j zM) = true) := fun h j hj => by
        by_cases e : j = i
        · rw [e]; exact h
        · exact HJ.out j (by omega)
      have HN := Lib.hid (HNO.out i hlt)
      have HOQ : On w wr := HO0.out.trans HO.out
      obtain ⟨⟨d0, d01⟩, u, d1, d2⟩ := c0
      obtain ⟨ua, uc, rfl⟩ := d2.shape
      have e0 := cell_on HOQ d0
      have e1 := cell_on HOQ d1
      clear d0 d1
      have HSY := sy_cells ((HB0.out.on HO.out).on ((On.refl HO.out.tab).alloc (.cells #[.int .u64 (((l.getD i zM).1 : Nat) : Int), .slice ua (l.getD i zM).2.length uc] 78)))
      obtain ⟨s0, s1, s2, s3, s4, s5, s6, s7⟩ := HSY
      have HCB : Hid (Calls Tryd.prog 146 #[syA S H, .agg #[.int .u64 (((l.getD i zM).1 : Nat) : Int), .slice ua (l.getD i zM).2.length uc], .pointer (some ⟨X, 0, none⟩)] (wr.alloc (.cells #[.int .u64 (((l.getD i zM).1 : Nat) : Int), .slice ua (l.getD i zM).2.length uc] 78)) fun e w' => e = .returned (.bool (moB S ks (l.getD i zM))) ∧ On (wr.alloc (.cells #[.int .u64 (((l.getD i zM).1 : Nat) : Int), .slice ua (l.getD i zM).2.length uc] 78)) w') := by
        have hA := (On.refl HO.out.tab).alloc (.cells #[.int .u64 (((l.getD i zM).1 : Nat) : Int), .slice ua (l.getD i zM).2.length uc] 78)
        exact Lib.hid (vrule1_any S H ks kv X (l.getD i zM) ua uc _ hA.tab HS.out d01 (d2.on (HOQ.trans hA)) (cell_on (HOQ.trans hA) HXX.out) (HKK.out.on (HOQ.trans hA)))
      clear d2 d01
      generalize (l.getD i zM).2.length = ln at *
      generalize (((l.getD i zM).1 : Nat) : Int) = lc at *
      clear HJ HOQ
      generalize (moB S ks) (l.getD i zM) = BB at *
      generalize l.getD i zM = x at *
      cases BB with
      | false =>
        have HF := Lib.hid (HN.out rfl)
        go_wp2_with (go_at_call 146; (with_reducible refine HCB.out.mono ?_); rintro e wy ⟨rfl, hOy⟩)
        go_ret
        exact ⟨by rw [HF.out]; rfl, HO0.out.trans (HO.out.trans (((On.refl HO.out.tab).alloc _).trans hOy))⟩
      | true =>
        have HF := Lib.hid (HJ2.out rfl)
        go_wp2_with (go_at_call 146; (with_reducible refine HCB.out.mono ?_); rintro e wy ⟨rfl, hOy⟩)
        have hOz : Hid (On W0 wy) := Lib.hid (HO.out.trans (((On.refl HO.out.tab).alloc _).trans hOy))
        clear hOy
        go_roundw
        case rel => exact ⟨i + 1, by omega, by simp, HF, hOz⟩
        case measure => simp [intOf]; omega
    · obtain rfl : n = i := by omega
      have HG := Lib.hid (HYES.out HJ.out)
      have hOz := HO0.out.trans HO.out
      clear HJ
      go_wp2
      go_ret
      exact ⟨by rw [HG.out]; rfl, hOz⟩
end Go.Proofs.YtnanjacllmdenaaDoor

/- Package system: validRule, all rules, validSizes, Valid: what the calls return. -/
namespace Go.Proofs.YtnanjacllmdenaaDoor
open Go.RowKit Go.Lib
set_option linter.unusedVariables false

theorem SLd.off_set {α : Type} {z : α} {k : Nat} {w : World} {v : Value} {l : List Int} (h : KdL w v l) {X : Nat} (hX : Off X v) (o : Nat) (y : Value) : KdL (w.setCell ⟨X, o, none⟩ y) v l := by
  obtain ⟨hL, h1 | ⟨b, off, cap, rfl, hc⟩⟩ := h
  · exact ⟨hL, .inl h1⟩
  · refine ⟨hL, .inr ⟨b, off, cap, rfl, fun i hi => ?_⟩⟩
    have hb : b ≠ X := hX b off _ cap rfl (by omega)
    show (w.setCell ⟨X, o, none⟩ y).cell? ⟨b, off + i * 1, none⟩ = _
    rw [World.cell?_setCell_other (h := fun e' => hb (by have := congrArg Addr.block e'; simpa using this.symm))]
    exact hc i hi
/-- The kinds with one more. -/
theorem kinds_grow (W0 : World) (h0 : Tab W0) (h48 : W0.heap.size < W0.heap.size + 1) :
    let K := W0.heap.size
    let W1 := (W0.alloc (.cells #[.int .u8 1, .int .u8 3, .int .u8 4] 50)).alloc (.cells #[.slice (some ⟨K, 0, none⟩) 3 3] 177)
    ∃ v' w', (∀ ty, (Builtin.append_ #[177, 177] ty #[.slice (some ⟨K, 0, none⟩) 3 3, .slice (some ⟨W1.heap.size, 0, none⟩) 1 1]).run Tryd.prog (W1.alloc (.cells #[.int .u8 2] 50)) = .ok v' w') ∧
      On W0 w' ∧ KdL w' v' [1, 3, 4, 2] ∧ Off (K + 1) v' ∧ VB (K + 1) w' [.slice (some ⟨K, 0, none⟩) 3 3] ∧ ∀ p : Addr, p.block < W0.heap.size → w'.cell? p = W0.cell? p := by
  intro K W1
  have hO1 : On W0 W1 := ((On.refl h0).alloc _).alloc _
  have hsz : W1.heap.size = K + 2 := by simp [W1, K]
  have hX : VB (K + 1) W1 [.slice (some ⟨K, 0, none⟩) 3 3] := by
    have h := vb_new (W0.alloc (.cells #[.int .u8 1, .int .u8 3, .int .u8 4] 50)) #[.slice (some ⟨K, 0, none⟩) 3 3] 177
    rw [World.size_alloc] at h; exact h
  have hown : (W1.alloc (.cells #[.int .u8 2] 50)).ownsRow K 50 1 (.slice (some ⟨K, 0, none⟩) 3 3) 3 [.int .u8 1, .int .u8 3, .int .u8 4] :=
    ((own_lit W0 50 1 [.int .u8 1, .int .u8 3, .int .u8 4] 3 rfl (by unfold maxLen; omega)).alloc _).alloc _
  obtain ⟨i0, hi, hz0, hz1, hz2⟩ := info_parts info_kd
  have hb2 := vb_new W1 #[.int .u8 2] 50
  obtain ⟨v', w', hrun, hown', hg, hloc⟩ := append_cells (P := Tryd.prog) (W1.alloc (.cells #[.int .u8 2] 50)) K 177 50 i0 (.int .u8 0) 1 1 Tryd.underlying177 hi hz0 hz1 hz2 rfl (by omega) _ 3 _ hown (some ⟨W1.heap.size, 0, none⟩) 1 1 [.int .u8 2] rfl
    (fun _ => ⟨_, rfl, fun j u hj => by
      obtain rfl : j = 0 := by
        have := (List.getElem?_eq_some_iff.1 hj).1; simp at this; omega
      simp only [List.getElem?_cons_zero, Option.some.injEq] at hj
      subst hj
      have := hb2.2.1 0 _ rfl
      exact this⟩) (by intro u hu; simp at hu; subst hu; rfl) (by unfold maxLen; omega) (by omega) (by simp [hsz]; omega)
  have hO2 : On W0 (W1.alloc (.cells #[.int .u8 2] 50)) := hO1.alloc _
  have hO3 : On W0 w' := hO2.gbv hg (fun r hr => ownsRow_below hown r hr)
  have hK : KdL w' v' [1, 3, 4, 2] := own_sld (0 : Int) RKd hown' rfl (by omega) fun g i u hi hu hc => by
    rw [RKd, hc]
    have : ∀ i, i < 4 → ([.int .u8 1, .int .u8 3, .int .u8 4, .int .u8 2] : List Value)[i]? = some (.int .u8 (([1, 3, 4, 2] : List Int).getD i 0)) := by
      intro i hi
      match i, hi with
      | 0, _ => rfl
      | 1, _ => rfl
      | 2, _ => rfl
      | 3, _ => rfl
    have e := this i hi
    rw [show ([.int .u8 1, .int .u8 3, .int .u8 4] ++ [.int .u8 2] : List Value) = [.int .u8 1, .int .u8 3, .int .u8 4, .int .u8 2] from rfl, e] at hu
    rw [← hu]
  have hOff : Off (K + 1) v' := fun b o n c e hn => by
    subst e
    have h2 : some b = some K ∨ some b = some (W1.alloc (.cells #[.int .u8 2] 50)).heap.size := hloc
    rw [World.size_alloc, hsz] at h2
    rcases h2 with e | e
    · have := Option.some.inj e; omega
    · have := Option.some.inj e; omega
  refine ⟨v', w', hrun, hO3, hK, hOff, ?_, fun p hp => hO3.cell hp⟩
  have hX2 : VB (K + 1) (W1.alloc (.cells #[.int .u8 2] 50)) [.slice (some ⟨K, 0, none⟩) 3 3] := hX.on ((On.refl hO1.tab).alloc _)
  have hblk : w'.heap[K + 1]? = (W1.alloc (.cells #[.int .u8 2] 50)).heap[K + 1]? := hg.block (K + 1) (by rw [World.size_alloc, hsz]; omega) (fun e => by have := Option.some.inj (show some (K + 1) = some K from e); omega)
  exact ⟨Nat.lt_of_lt_of_le hX2.1 hg.size, fun i u hu => (World.cell?_of_block (a := ⟨K + 1, i, none⟩) hblk).trans (hX2.2.1 i u hu), fun i => (World.frozen?_of_block (a := ⟨K + 1, i, none⟩) hblk).trans (hX2.2.2 i)⟩
set_option maxHeartbeats 2000000 in
set_option maxRecDepth 100000 in
theorem vrule_any (S : Sy) (H : Sh) (r : Ru) (ua : Option Addr) (uc : Nat) (w : World) (hT : Tab w) (hs : szS S = true) (hV : MRw w (.slice ua r.2.length uc) r.2) :
    Calls Tryd.prog 102 #[syA S H, .agg #[.int .u8 r.1, .slice ua r.2.length uc]] w fun e w' => e = .returned (.bool (ruB S r)) ∧ On w w' := by
  obtain ⟨W0, hW0⟩ : ∃ W0, W0 = (w.alloc (syO S H)).alloc (.cells #[.int .u8 r.1, .slice ua r.2.length uc] 76) := ⟨_, rfl⟩
  have hO0 : On w W0 := by rw [hW0]; exact ((On.refl hT).alloc _).alloc _
  have HB0 : Hid (VB w.heap.size W0 (syL S H)) := by rw [hW0]; exact Lib.hid ((vb_newS S H w).on ((On.refl ((On.refl hT).alloc _).tab).alloc _))
  have HB1 : Hid (VB (w.heap.size + 1) W0 [.int .u8 r.1, .slice ua r.2.length uc]) := by
    have h := vb_new (w.alloc (syO S H)) #[.int .u8 r.1, .slice ua r.2.length uc] 76
    rw [World.size_alloc] at h
    rw [hW0]; exact Lib.hid h
  obtain ⟨K, hKe⟩ : ∃ K, K = W0.heap.size := ⟨_, rfl⟩
  obtain ⟨W1, hW1⟩ : ∃ W1, W1 = (W0.alloc (.cells #[.int .u8 1, .int .u8 3, .int .u8 4] 50)).alloc (.cells #[.slice (some ⟨K, 0, none⟩) 3 3] 177) := ⟨_, rfl⟩
  have hO1 : On W0 W1 := by rw [hW1]; exact ((On.refl hO0.tab).alloc _).alloc _
  have HX1 : Hid (VB (K + 1) W1 [.slice (some ⟨K, 0, none⟩) 3 3]) := by
    have h := vb_new (W0.alloc (.cells #[.int .u8 1, .int .u8 3, .int .u8 4] 50)) #[.slice (some ⟨K, 0, none⟩) 3 3] 177
    rw [World.size_alloc] at h
    rw [hW1, hKe] at *; exact Lib.hid h
  have hK1 : KdL W1 (.slice (some ⟨K, 0, none⟩) 3 3) [1, 3, 4] := by
    have h := (kd_lit W0 [1, 3, 4] (by simp)).on ((On.refl ((On.refl hO0.tab).alloc (.cells #[.int .u8 1, .int .u8 3, .int .u8 4] 50)).tab).alloc (.cells #[.slice (some ⟨K, 0, none⟩) 3 3] 177))
    rw [hW1, hKe] at *; exact h
  have HK1 := Lib.hid hK1
  have hg := kinds_grow W0 hO0.tab (by omega)
  simp only at hg
  rw [← hKe, ← hW1] at hg
  have HG := Lib.hid hg
  have HALL : ∀ ks, Hid (∀ (kv : Value) (V : World), On W0 V → V.cell? ⟨K + 1, 0, none⟩ = some kv → KdL V kv ks → Calls Tryd.prog 145 #[syA S H, .slice ua r.2.length uc, .func (.func 146) #[] #[.pointer (some ⟨K + 1, 0, none⟩)]] V fun e w' => e = .returned (.bool (r.2.all (moB S ks))) ∧ On V w') := fun ks => Lib.hid fun kv V hO hx hk =>
    all_mono S H ks kv (K + 1) r.2 _ V hO.tab hs (hV.on (hO0.trans hO)).mol hx hk
  have HA1 := HALL [1, 3, 4, 2]
  have HA2 := HALL [1, 3, 4]
  have HDG : Hid (Calls Tryd.prog 140 #[.slice ua r.2.length uc] W1 fun e w' => e = .returned (.int .i64 ((degS r.2 : Nat) : Int)) ∧ On W1 w') := degreew_any r.2 _ W1 hO1.tab (hV.on (hO0.trans hO1))
  have HW0 := Lib.hid hW0; have HO0 := Lib.hid hO0; have HKE := Lib.hid hKe; have HW1 := Lib.hid hW1; have HO1 := Lib.hid hO1
  clear hT hs hV hW0 hO0 hKe hW1 hO1 hK1 hg HALL
  obtain ⟨rk, sm⟩ := r
  have E12 : rk = 1 ∨ rk = 2 → ruB S (rk, sm) = (decide (sm.length ≤ 64) && sm.all (moB S [1, 3, 4, 2])) := fun h => by unfold ruB; rw [if_pos h]
  have E34 : rk = 3 ∨ rk = 4 → ruB S (rk, sm) = (decide (degS sm ≤ 1) && (decide (sm.length ≤ 64) && sm.all (moB S [1, 3, 4]))) := fun h => by unfold ruB; rw [if_neg (by simp only; omega), if_pos h]
  have E5 : rk ≠ 1 ∧ rk ≠ 2 ∧ rk ≠ 3 ∧ rk ≠ 4 → ruB S (rk, sm) = false := fun h => by unfold ruB; rw [if_neg (by simp only; omega), if_neg (by simp only; omega)]
  simp only at HB1 HA1 HA2 HDG HW0 ⊢
  generalize ruB S (rk, sm) = RR at *
  generalize sm.all (moB S [1, 3, 4, 2]) = A1 at *
  generalize sm.all (moB S [1, 3, 4]) = A2 at *
  generalize degS sm = D at *
  generalize sm.length = n at *
  rcases kinds4 rk with rfl | rfl | rfl | rfl | h
  · rw [E12 (by simp)]
    clear E12 E34 E5
    obtain ⟨vg, wg, hrun, hO3, hKg, hOffg, hX2, hold⟩ := HG.out
    obtain ⟨ga, gc, hvg⟩ := hKg.shape
    rw [show ([1, 3, 4, 2] : List Int).length = 4 from rfl] at hvg
    subst hvg
    go_enter Tryd.func102, Tryd.ntmps102
    go_upto_region 1 with fail
    rw [← HW0.out]
    go_upto_region 2 with fail
    rw [← HKE.out, ← HW1.out]
    have l0 := (HB1.out.on HO1.out).2.1 0 _ rfl
    have HRG := Lib.hid hrun
    have y0 := hX2.2.1 0 _ rfl
    have y1 := hX2.2.2 0
    have x0 := HX1.out.2.1 0 _ rfl
    have hOV : On W0 (wg.setCell ⟨K + 1, 0, none⟩ (.slice ga 4 gc)) := hO3.setCell (by rw [HKE.out]; simp) _
    have hXV : (wg.setCell ⟨K + 1, 0, none⟩ (.slice ga 4 gc)).cell? ⟨K + 1, 0, none⟩ = some (.slice ga 4 gc) := World.cell?_setCell_same _ _ _ y0
    have hKV : KdL (wg.setCell ⟨K + 1, 0, none⟩ (.slice ga 4 gc)) (.slice ga 4 gc) [1, 3, 4, 2] := SLd.off_set (z := (0 : Int)) (k := 1) hKg hOffg 0 (.slice ga 4 gc)
    obtain ⟨V, hVe⟩ : ∃ V, V = wg.setCell ⟨K + 1, 0, none⟩ (.slice ga 4 gc) := ⟨_, rfl⟩
    rw [← hVe] at hOV hXV hKV
    have HVE := Lib.hid hVe
    have HOV := Lib.hid hOV; have HXV := Lib.hid hXV; have HKV := Lib.hid hKV
    clear hrun hO3 hKg hOffg hX2 hold hVe hOV hXV hKV
    go_upto_region 11 with (at_builtin; refine wp_appendJ rfl (.tmp 12) (.tmp 13) _ _ rfl _ _ (.slice ga 4 gc) rfl rfl HRG.out ?_)
    rw [← HVE.out]
    clear y0 y1 x0 l0
    obtain ⟨s0, s1, s2, s3, s4, s5, s6, s7⟩ := sy_cells (HB0.out.on HOV.out)
    have l1 := (HB1.out.on HOV.out).2.1 1 _ rfl
    have HAa1 := Lib.hid (HA1.out _ V HOV.out HXV.out HKV.out)
    by_cases hn : n ≤ 64
    · have HNN := Lib.hid hn
      have hn' : (n : Int) ≤ 64 := by omega
      clear hn
      go_wp2_with (go_at_call 145; (with_reducible refine HAa1.out.mono ?_); rintro e w9 ⟨rfl, hO9⟩)
      go_ret
      exact ⟨by simp [HNN.out], HO0.out.trans ((HOV.out).trans hO9)⟩
    · have HNN := Lib.hid hn
      have hn' : ¬ (n : Int) ≤ 64 := by omega
      clear hn
      go_wp2
      go_ret
      exact ⟨by simp [HNN.out], HO0.out.trans (HOV.out)⟩
  · rw [E12 (by simp)]
    clear E12 E34 E5
    obtain ⟨vg, wg, hrun, hO3, hKg, hOffg, hX2, hold⟩ := HG.out
    obtain ⟨ga, gc, hvg⟩ := hKg.shape
    rw [show ([1, 3, 4, 2] : List Int).length = 4 from rfl] at hvg
    subst hvg
    go_enter Tryd.func102, Tryd.ntmps102
    go_upto_region 1 with fail
    rw [← HW0.out]
    go_upto_region 2 with fail
    rw [← HKE.out, ← HW1.out]
    have l0 := (HB1.out.on HO1.out).2.1 0 _ rfl
    have HRG := Lib.hid hrun
    have y0 := hX2.2.1 0 _ rfl
    have y1 := hX2.2.2 0
    have x0 := HX1.out.2.1 0 _ rfl
    have hOV : On W0 (wg.setCell ⟨K + 1, 0, none⟩ (.slice ga 4 gc)) := hO3.setCell (by rw [HKE.out]; simp) _
    have hXV : (wg.setCell ⟨K + 1, 0, none⟩ (.slice ga 4 gc)).cell? ⟨K + 1, 0, none⟩ = some (.slice ga 4 gc) := World.cell?_setCell_same _ _ _ y0
    have hKV : KdL (wg.setCell ⟨K + 1, 0, none⟩ (.slice ga 4 gc)) (.slice ga 4 gc) [1, 3, 4, 2] := SLd.off_set (z := (0 : Int)) (k := 1) hKg hOffg 0 (.slice ga 4 gc)
    obtain ⟨V, hVe⟩ : ∃ V, V = wg.setCell ⟨K + 1, 0, none⟩ (.slice ga 4 gc) := ⟨_, rfl⟩
    rw [← hVe] at hOV hXV hKV
    have HVE := Lib.hid hVe
    have HOV := Lib.hid hOV; have HXV := Lib.hid hXV; have HKV := Lib.hid hKV
    clear hrun hO3 hKg hOffg hX2 hold hVe hOV hXV hKV
    go_upto_region 11 with (at_builtin; refine wp_appendJ rfl (.tmp 12) (.tmp 13) _ _ rfl _ _ (.slice ga 4 gc) rfl rfl HRG.out ?_)
    rw [← HVE.out]
    clear y0 y1 x0 l0
    obtain ⟨s0, s1, s2, s3, s4, s5, s6, s7⟩ := sy_cells (HB0.out.on HOV.out)
    have l1 := (HB1.out.on HOV.out).2.1 1 _ rfl
    have HAa2 := Lib.hid (HA1.out _ V HOV.out HXV.out HKV.out)
    by_cases hn : n ≤ 64
    · have HNN := Lib.hid hn
      have hn' : (n : Int) ≤ 64 := by omega
      clear hn
      go_wp2_with (go_at_call 145; (with_reducible refine HAa2.out.mono ?_); rintro e w9 ⟨rfl, hO9⟩)
      go_ret
      exact ⟨by simp [HNN.out], HO0.out.trans ((HOV.out).trans hO9)⟩
    · have HNN := Lib.hid hn
      have hn' : ¬ (n : Int) ≤ 64 := by omega
      clear hn
      go_wp2
      go_ret
      exact ⟨by simp [HNN.out], HO0.out.trans (HOV.out)⟩
  · rw [E34 (by simp)]
    clear E12 E34 E5
    go_enter Tryd.func102, Tryd.ntmps102
    go_upto_region 1 with fail
    rw [← HW0.out]
    go_upto_region 2 with fail
    rw [← HKE.out, ← HW1.out]
    have l0 := (HB1.out.on HO1.out).2.1 0 _ rfl
    have l1 := (HB1.out.on HO1.out).2.1 1 _ rfl
    by_cases hD : D ≤ 1
    · have HDD := Lib.hid hD
      have hD' : ¬ (1 : Int) < (D : Int) := by omega
      clear hD
      go_upto_region 11 with (go_at_call 140; (with_reducible refine HDG.out.mono ?_); rintro e w5 ⟨rfl, hO5⟩)
      have HO5 := Lib.hid (HO1.out.trans hO5)
      have HX5 := Lib.hid ((HX1.out.on hO5).2.1 0 _ rfl)
      have HK5 := Lib.hid (KdL.on HK1.out hO5)
      clear l0 l1 hO5
      obtain ⟨s0, s1, s2, s3, s4, s5, s6, s7⟩ := sy_cells (HB0.out.on HO5.out)
      have l1 := (HB1.out.on HO5.out).2.1 1 _ rfl
      have HAb3 := Lib.hid (HA2.out _ w5 HO5.out HX5.out HK5.out)
      by_cases hn : n ≤ 64
      · have HNN := Lib.hid hn
        have hn' : (n : Int) ≤ 64 := by omega
        clear hn
        go_wp2_with (go_at_call 145; (with_reducible refine HAb3.out.mono ?_); rintro e w9 ⟨rfl, hO9⟩)
        go_ret
        exact ⟨by simp [HNN.out, HDD.out], HO0.out.trans ((HO5.out).trans hO9)⟩
      · have HNN := Lib.hid hn
        have hn' : ¬ (n : Int) ≤ 64 := by omega
        clear hn
        go_wp2
        go_ret
        exact ⟨by simp [HNN.out, HDD.out], HO0.out.trans (HO5.out)⟩
    · have HDD := Lib.hid hD
      have hD' : (1 : Int) < (D : Int) := by omega
      clear hD
      go_wp2_with (go_at_call 140; (with_reducible refine HDG.out.mono ?_); rintro e w5 ⟨rfl, hO5⟩)
      go_ret
      exact ⟨by simp [HDD.out], HO0.out.trans (HO1.out.trans hO5)⟩
  · rw [E34 (by simp)]
    clear E12 E34 E5
    go_enter Tryd.func102, Tryd.ntmps102
    go_upto_region 1 with fail
    rw [← HW0.out]
    go_upto_region 2 with fail
    rw [← HKE.out, ← HW1.out]
    have l0 := (HB1.out.on HO1.out).2.1 0 _ rfl
    have l1 := (HB1.out.on HO1.out).2.1 1 _ rfl
    by_cases hD : D ≤ 1
    · have HDD := Lib.hid hD
      have hD' : ¬ (1 : Int) < (D : Int) := by omega
      clear hD
      go_upto_region 11 with (go_at_call 140; (with_reducible refine HDG.out.mono ?_); rintro e w5 ⟨rfl, hO5⟩)
      have HO5 := Lib.hid (HO1.out.trans hO5)
      have HX5 := Lib.hid ((HX1.out.on hO5).2.1 0 _ rfl)
      have HK5 := Lib.hid (KdL.on HK1.out hO5)
      clear l0 l1 hO5
      obtain ⟨s0, s1, s2, s3, s4, s5, s6, s7⟩ := sy_cells (HB0.out.on HO5.out)
      have l1 := (HB1.out.on HO5.out).2.1 1 _ rfl
      have HAb4 := Lib.hid (HA2.out _ w5 HO5.out HX5.out HK5.out)
      by_cases hn : n ≤ 64
      · have HNN := Lib.hid hn
        have hn' : (n : Int) ≤ 64 := by omega
        clear hn
        go_wp2_with (go_at_call 145; (with_reducible refine HAb4.out.mono ?_); rintro e w9 ⟨rfl, hO9⟩)
        go_ret
        exact ⟨by simp [HNN.out, HDD.out], HO0.out.trans ((HO5.out).trans hO9)⟩
      · have HNN := Lib.hid hn
        have hn' : ¬ (n : Int) ≤ 64 := by omega
        clear hn
        go_wp2
        go_ret
        exact ⟨by simp [HNN.out, HDD.out], HO0.out.trans (HO5.out)⟩
    · have HDD := Lib.hid hD
      have hD' : (1 : Int) < (D : Int) := by omega
      clear hD
      go_wp2_with (go_at_call 140; (with_reducible refine HDG.out.mono ?_); rintro e w5 ⟨rfl, hO5⟩)
      go_ret
      exact ⟨by simp [HDD.out], HO0.out.trans (HO1.out.trans hO5)⟩
  · rw [E5 h]
    clear E12 E34 E5
    obtain ⟨h1, h2, h3, h4⟩ := h
    have e1 := beq_no h1; have e2 := beq_no h2; have e3 := beq_no h3; have e4 := beq_no h4
    clear h1 h2 h3 h4
    go_enter Tryd.func102, Tryd.ntmps102
    go_upto_region 1 with fail
    rw [← HW0.out]
    go_upto_region 2 with fail
    rw [← HKE.out, ← HW1.out]
    have l0 := (HB1.out.on HO1.out).2.1 0 _ rfl
    go_wp2
    go_ret
    exact ⟨rfl, HO0.out.trans HO1.out⟩
end Go.Proofs.YtnanjacllmdenaaDoor
