/- The document's put: the walk. -/
import Derived.Test.YtnmdfldgpbfbbaaGreatDoorKzm23
import Derived.Test.YtnmdfldgpbfbbaaGreatDoorKzm22
set_option linter.unusedSimpArgs false
set_option linter.unusedVariables false
/- The document's put: the walk. -/
namespace Go.Proofs.YtnmdfldgpbfbbaaGreatDoor
open Go.Shelf Go.RowKit Go.Lib Go.Sort
set_option linter.unusedVariables false

theorem step_appendJ {P : Program} {w w' : World} {ops : Array Oper} {o : Oper} {a : Act} {K : Act → World → Prop} {Q : Exit → Act → World → Prop} {E : Prop} (hgd : o.guard = none) (s x : Operand) (t u : TypeId)
    (ho : o.op = .call { callee := .builtin .append, args := #[s, x], argTypes := #[t, u] }) (vs vx v' : Value) (hs : a.eval s = vs) (hx : a.eval x = vx) (hrun : ∀ ty, (Builtin.append_ #[t, u] ty #[vs, vx]).run P w = .ok v' w')
    (h : K (a.put o.dst v') w') : if Region.wanted o (yielded ops a.tmps) = true then Oper.wp P o a w K Q else E := by
  have hw : Region.wanted o (yielded ops a.tmps) = true := by unfold Region.wanted; rw [hgd]
  rw [if_pos hw]
  unfold Oper.wp execOp
  simp only [ho, resolve, invoke, builtin, Sem.run_bind, Sem.run_pure, Result.andThen_ok, List.map_toArray, List.map_cons, List.map_nil, hs, hx, hrun]
  exact h
set_option maxRecDepth 100000 in
set_option maxHeartbeats 4000000 in
theorem rput_any (f : Int) (D : List Mo) (c : Nat) (vl : List Vr) (oa : Option Addr) (k cap : Nat) (a' : Option Addr) (c' : Nat) (w : World) (hT : Tab w) (hp : 0 < pOf f) (hM : MRd w (.slice oa k cap) D) (hkc : k ≤ cap) (hcm : cap ≤ 9223372036854775807) (hV : VRd w (.slice a' vl.length c') vl) (hD : Ord f D) (hc : c < pOf f) (hk2 : k ≤ 200000) :
    Calls Tryz.prog 21 #[.int .i64 f, .slice oa k cap, .agg #[.int .u64 ((c : Nat) : Int), .slice a' vl.length c']] w fun e w' => (∃ oa2 k2 cap2 D', e = .returned (.slice oa2 k2 cap2) ∧ k2 ≤ cap2 ∧ cap2 ≤ 9223372036854775807 ∧ k2 ≤ k + 1 ∧ MRd w' (.slice oa2 k2 cap2) D' ∧ Ord f D' ∧ ∀ u, coefN D' u % pOf f = (coefN D u + if vl = u then c else 0) % pOf f) ∧ On w w' := by
  have hp2 := pOf_le f
  obtain ⟨w1, hw1⟩ : ∃ w1, w1 = w.alloc (.cells #[.int .u64 ((c : Nat) : Int), .slice a' vl.length c'] 34) := ⟨_, rfl⟩
  obtain ⟨Bx, hBx⟩ : ∃ Bx, Bx = w.heap.size := ⟨_, rfl⟩
  have hO1 : On w w1 := by rw [hw1]; exact (On.refl hT).alloc _
  have x0 : w1.cell? ⟨Bx, 0, none⟩ = some (.int .u64 ((c : Nat) : Int)) := by rw [hw1, hBx, World.cell?_alloc_new]; rfl
  have x1 : w1.cell? ⟨Bx, 1, none⟩ = some (.slice a' vl.length c') := by rw [hw1, hBx, World.cell?_alloc_new]; rfl
  have HO1 := Lib.hid hO1
  have HM := Lib.hid (hM.on hO1)
  have HV := Lib.hid (hV.on hO1)
  have hkd := hM.len
  have HKD := Lib.hid hkd
  have HDD := Lib.hid hD
  have HC1 := Lib.hid hc
  have HPP := Lib.hid hp
  have HCMP := Lib.hid (fun (l : List Vr) (va : Value) (wq : World) (h : On w1 wq) (hl : VRd wq va l) => rcompare_any l vl va (.slice a' vl.length c') wq h.tab hl (HV.out.on h))
  have HW1 := Lib.hid hw1
  have HBX := Lib.hid hBx
  have hc9 : c ≤ 998244353 := by omega
  obtain ⟨nv, hnv⟩ : ∃ nv, vl.length = nv := ⟨_, rfl⟩
  have HNV := Lib.hid hnv
  rw [hnv] at x1 HCMP HW1 ⊢
  clear hT hM hV hD hc hp hw1 hBx hO1 hp2 hkd hnv
  go_enter Tryz.func21, Tryz.ntmps21
  go_upto_region 1 with fail
  rw [← HBX.out, ← HW1.out]
  go_wp2_with fail
  go_loopw [7] (fun vj wq => ∃ j : Nat, j ≤ k ∧ vj = .int .i64 (j : Int) ∧ Hid (∀ t, t < j → cmpD (D.getD t zM).2 vl < 0) ∧ Hid (On w1 wq)) (fun vj _ => k - (intOf vj).toNat)
  case atStart => exact ⟨0, Nat.zero_le _, rfl, Lib.hid (fun t ht => absurd ht (Nat.not_lt_zero _)), Lib.hid (On.refl HO1.out.tab)⟩
  case round =>
    rename World => wq
    obtain ⟨j, hjk, rfl, HTT, HOQ⟩ := hrel
    by_cases hjt : j < k
    · obtain ⟨g, o, ad, cad, rfl, d0', d1', hdv⟩ := HM.out.cells j (by rw [← HKD.out]; exact hjt)
      have hjt' : (j : Int) < (k : Int) := by omega
      have x1q := (HOQ.out.cell (p := ⟨Bx, 1, none⟩) (cell_size x1)).trans x1
      have d1 := (HOQ.out.cell (p := ⟨g, o + j * 2 + 1, none⟩) (cell_size d1')).trans d1'
      have HDV1 := Lib.hid hdv
      have hdc := HM.out.le j
      have HJD : Hid (j < D.length) := by unfold Hid; rw [← HKD.out]; exact hjt
      obtain ⟨cd, hcd⟩ : ∃ cd, cd = cmpD (D.getD j zM).2 vl := ⟨_, rfl⟩
      have HCD := Lib.hid hcd
      have HCM := Lib.hid (fun (wx : World) (h : On wq wx) => (HCMP.out (D.getD j zM).2 (.slice ad (D.getD j zM).2.length cad) wx (HOQ.out.trans h) (HDV1.out.on (HOQ.out.trans h))).mono fun e w' ⟨he, ho⟩ => (⟨he, h.trans ho⟩ : _ ∧ On wq w'))
      rw [← hcd] at HCM
      clear hdv hcd
      by_cases hb : cd < 0
      · have HTT2 : Hid (∀ t, t < j + 1 → cmpD (D.getD t zM).2 vl < 0) := fun t ht => by
          rcases Nat.lt_or_ge t j with h | h
          · exact HTT.out t h
          · obtain rfl : t = j := by omega
            rw [← HCD.out]; exact hb
        generalize (D.getD j zM).2.length = dl at d1 HCM
        clear HTT HCD
        go_wp2
        refine region_keep_tail (fun wx => On wq wx) 14 (by kernel_rfl) (by kernel_rfl) (On.refl HOQ.out.tab).drew ?_
        simp only [List.take_succ_cons, List.take_zero, List.drop_succ_cons, List.drop_zero]
        refine quiet_start fun L9 hL9 => ?_
        refine quiet_take (v := ?kav0) hL9 (by kernel_rfl) (fun wq hwq => ?kay0) (fun L9 hL9 => ?kar0)
        case kay0 => (go_simp; try with_reducible rfl)
        try simp only [Act.put, List.setIfInBounds_toArray, List.set_cons_zero, List.set_cons_succ]
        refine quiet_take (v := ?kav1) hL9 (by kernel_rfl) (fun wq hwq => ?kay1) (fun L9 hL9 => ?kar1)
        case kay1 => (go_simp; try with_reducible rfl)
        try simp only [Act.put, List.setIfInBounds_toArray, List.set_cons_zero, List.set_cons_succ]
        refine quiet_take (v := ?kav2) hL9 (by kernel_rfl) (fun wq hwq => ?kay2) (fun L9 hL9 => ?kar2)
        case kay2 => (go_simp; try with_reducible rfl)
        try simp only [Act.put, List.setIfInBounds_toArray, List.set_cons_zero, List.set_cons_succ]
        refine quiet_take (v := ?kav3) hL9 (by kernel_rfl) (fun wq hwq => ?kay3) (fun L9 hL9 => ?kar3)
        case kay3 => (go_simp; try with_reducible rfl)
        try simp only [Act.put, List.setIfInBounds_toArray, List.set_cons_zero, List.set_cons_succ]
        refine quiet_take (v := ?kav4) hL9 (by kernel_rfl) (fun wq hwq => ?kay4) (fun L9 hL9 => ?kar4)
        case kay4 => (go_simp; try with_reducible rfl)
        try simp only [Act.put, List.setIfInBounds_toArray, List.set_cons_zero, List.set_cons_succ]
        refine quiet_take (v := ?kav5) hL9 (by kernel_rfl) (fun wq hwq => ?kay5) (fun L9 hL9 => ?kar5)
        case kay5 => (go_simp; try with_reducible rfl)
        try simp only [Act.put, List.setIfInBounds_toArray, List.set_cons_zero, List.set_cons_succ]
        refine quiet_take (v := ?kav6) hL9 (by kernel_rfl) (fun wq hwq => ?kay6) (fun L9 hL9 => ?kar6)
        case kay6 => (go_simp; try with_reducible rfl)
        try simp only [Act.put, List.setIfInBounds_toArray, List.set_cons_zero, List.set_cons_succ]
        refine quiet_take (v := ?kav7) hL9 (by kernel_rfl) (fun wq hwq => ?kay7) (fun L9 hL9 => ?kar7)
        case kay7 => (go_simp; try with_reducible rfl)
        try simp only [Act.put, List.setIfInBounds_toArray, List.set_cons_zero, List.set_cons_succ]
        refine quiet_take (v := ?kav8) hL9 (by kernel_rfl) (fun wq hwq => ?kay8) (fun L9 hL9 => ?kar8)
        case kay8 => (go_simp; try with_reducible rfl)
        try simp only [Act.put, List.setIfInBounds_toArray, List.set_cons_zero, List.set_cons_succ]
        refine quiet_take (v := ?kav9) hL9 (by kernel_rfl) (fun wq hwq => ?kay9) (fun L9 hL9 => ?kar9)
        case kay9 => (have k0 := (hwq.cell (p := ⟨g, o + j * 2 + 1, none⟩) (cell_size d1)).trans d1; have k1 := (hwq.cell (p := ⟨Bx, 1, none⟩) (cell_size x1q)).trans x1q; go_simp; try with_reducible rfl)
        try simp only [Act.put, List.setIfInBounds_toArray, List.set_cons_zero, List.set_cons_succ]
        refine quiet_take (v := ?kav10) hL9 (by kernel_rfl) (fun wq hwq => ?kay10) (fun L9 hL9 => ?kar10)
        case kay10 => (go_simp; try with_reducible rfl)
        try simp only [Act.put, List.setIfInBounds_toArray, List.set_cons_zero, List.set_cons_succ]
        refine quiet_take (v := ?kav11) hL9 (by kernel_rfl) (fun wq hwq => ?kay11) (fun L9 hL9 => ?kar11)
        case kay11 => (have k0 := (hwq.cell (p := ⟨g, o + j * 2 + 1, none⟩) (cell_size d1)).trans d1; have k1 := (hwq.cell (p := ⟨Bx, 1, none⟩) (cell_size x1q)).trans x1q; go_simp; try with_reducible rfl)
        try simp only [Act.put, List.setIfInBounds_toArray, List.set_cons_zero, List.set_cons_succ]
        refine quiet_take (v := .int .i64 cd) hL9 (by kernel_rfl) (fun wq hwq => ?kay12) (fun L9 hL9 => ?kar12)
        case kay12 => (go_simp; go_at_call 49; exact HCM.out _ hwq)
        try simp only [Act.put, List.setIfInBounds_toArray, List.set_cons_zero, List.set_cons_succ]
        refine quiet_take (v := ?kav13) hL9 (by kernel_rfl) (fun wq hwq => ?kay13) (fun L9 hL9 => ?kar13)
        case kay13 => (go_simp; try with_reducible rfl)
        try simp only [Act.put, List.setIfInBounds_toArray, List.set_cons_zero, List.set_cons_succ]
        refine quiet_nil hL9 ?_
        clear hL9
        intro w6 hX6
        go_wp2
        go_roundw
        case rel => exact ⟨j + 1, by omega, by simp, HTT2, Lib.hid (HOQ.out.trans hX6)⟩
        case measure => simp [intOf]; omega
      · have HCM1 := Lib.hid (fun (wq' wx : World) (ho : On w1 wq') (h : On wq' wx) => (HCMP.out (D.getD j zM).2 (.slice ad (D.getD j zM).2.length cad) wx (ho.trans h) (HDV1.out.on (ho.trans h))).mono fun e w' ⟨he, ho2⟩ => (⟨he, h.trans ho2⟩ : _ ∧ On wq' w'))
        rw [← HCD.out] at HCM1
        by_cases he : cd = 0
        · have HPO := Lib.hid (put_old (c := c) HPP.out HDD.out HJD.out (by rw [← HCD.out]; exact he))
          obtain ⟨xx, hxx⟩ : ∃ x, x = D.getD j zM := ⟨_, rfl⟩
          rw [← hxx] at d0' d1' d1 HDV1 hdc HCM HCM1 HPO
          clear hxx HCD
          obtain ⟨dc, dv⟩ := xx
          simp only at d0' d1' d1 HDV1 hdc HCM HCM1 HPO
          obtain ⟨dl, hdl⟩ : ∃ dl, dv.length = dl := ⟨_, rfl⟩
          have HDL := Lib.hid hdl
          rw [hdl] at d1 d1' HCM HCM1
          clear hdl
          subst he
          go_wp2
          refine region_keep_tail (fun wx => On wq wx) 14 (by kernel_rfl) (by kernel_rfl) (On.refl HOQ.out.tab).drew ?_
          simp only [List.take_succ_cons, List.take_zero, List.drop_succ_cons, List.drop_zero]
          refine quiet_start fun L9 hL9 => ?_
          refine quiet_take (v := ?kbv0) hL9 (by kernel_rfl) (fun wq hwq => ?kby0) (fun L9 hL9 => ?kbr0)
          case kby0 => (go_simp; try with_reducible rfl)
          try simp only [Act.put, List.setIfInBounds_toArray, List.set_cons_zero, List.set_cons_succ]
          refine quiet_take (v := ?kbv1) hL9 (by kernel_rfl) (fun wq hwq => ?kby1) (fun L9 hL9 => ?kbr1)
          case kby1 => (go_simp; try with_reducible rfl)
          try simp only [Act.put, List.setIfInBounds_toArray, List.set_cons_zero, List.set_cons_succ]
          refine quiet_take (v := ?kbv2) hL9 (by kernel_rfl) (fun wq hwq => ?kby2) (fun L9 hL9 => ?kbr2)
          case kby2 => (go_simp; try with_reducible rfl)
          try simp only [Act.put, List.setIfInBounds_toArray, List.set_cons_zero, List.set_cons_succ]
          refine quiet_take (v := ?kbv3) hL9 (by kernel_rfl) (fun wq hwq => ?kby3) (fun L9 hL9 => ?kbr3)
          case kby3 => (go_simp; try with_reducible rfl)
          try simp only [Act.put, List.setIfInBounds_toArray, List.set_cons_zero, List.set_cons_succ]
          refine quiet_take (v := ?kbv4) hL9 (by kernel_rfl) (fun wq hwq => ?kby4) (fun L9 hL9 => ?kbr4)
          case kby4 => (go_simp; try with_reducible rfl)
          try simp only [Act.put, List.setIfInBounds_toArray, List.set_cons_zero, List.set_cons_succ]
          refine quiet_take (v := ?kbv5) hL9 (by kernel_rfl) (fun wq hwq => ?kby5) (fun L9 hL9 => ?kbr5)
          case kby5 => (go_simp; try with_reducible rfl)
          try simp only [Act.put, List.setIfInBounds_toArray, List.set_cons_zero, List.set_cons_succ]
          refine quiet_take (v := ?kbv6) hL9 (by kernel_rfl) (fun wq hwq => ?kby6) (fun L9 hL9 => ?kbr6)
          case kby6 => (go_simp; try with_reducible rfl)
          try simp only [Act.put, List.setIfInBounds_toArray, List.set_cons_zero, List.set_cons_succ]
          refine quiet_take (v := ?kbv7) hL9 (by kernel_rfl) (fun wq hwq => ?kby7) (fun L9 hL9 => ?kbr7)
          case kby7 => (go_simp; try with_reducible rfl)
          try simp only [Act.put, List.setIfInBounds_toArray, List.set_cons_zero, List.set_cons_succ]
          refine quiet_take (v := ?kbv8) hL9 (by kernel_rfl) (fun wq hwq => ?kby8) (fun L9 hL9 => ?kbr8)
          case kby8 => (go_simp; try with_reducible rfl)
          try simp only [Act.put, List.setIfInBounds_toArray, List.set_cons_zero, List.set_cons_succ]
          refine quiet_take (v := ?kbv9) hL9 (by kernel_rfl) (fun wq hwq => ?kby9) (fun L9 hL9 => ?kbr9)
          case kby9 => (have k0 := (hwq.cell (p := ⟨g, o + j * 2 + 1, none⟩) (cell_size d1)).trans d1; have k1 := (hwq.cell (p := ⟨Bx, 1, none⟩) (cell_size x1q)).trans x1q; go_simp; try with_reducible rfl)
          try simp only [Act.put, List.setIfInBounds_toArray, List.set_cons_zero, List.set_cons_succ]
          refine quiet_take (v := ?kbv10) hL9 (by kernel_rfl) (fun wq hwq => ?kby10) (fun L9 hL9 => ?kbr10)
          case kby10 => (go_simp; try with_reducible rfl)
          try simp only [Act.put, List.setIfInBounds_toArray, List.set_cons_zero, List.set_cons_succ]
          refine quiet_take (v := ?kbv11) hL9 (by kernel_rfl) (fun wq hwq => ?kby11) (fun L9 hL9 => ?kbr11)
          case kby11 => (have k0 := (hwq.cell (p := ⟨g, o + j * 2 + 1, none⟩) (cell_size d1)).trans d1; have k1 := (hwq.cell (p := ⟨Bx, 1, none⟩) (cell_size x1q)).trans x1q; go_simp; try with_reducible rfl)
          try simp only [Act.put, List.setIfInBounds_toArray, List.set_cons_zero, List.set_cons_succ]
          refine quiet_take (v := .int .i64 0) hL9 (by kernel_rfl) (fun wq hwq => ?kby12) (fun L9 hL9 => ?kbr12)
          case kby12 => (go_simp; go_at_call 49; exact HCM.out _ hwq)
          try simp only [Act.put, List.setIfInBounds_toArray, List.set_cons_zero, List.set_cons_succ]
          refine quiet_take (v := ?kbv13) hL9 (by kernel_rfl) (fun wq hwq => ?kby13) (fun L9 hL9 => ?kbr13)
          case kby13 => (go_simp; try with_reducible rfl)
          try simp only [Act.put, List.setIfInBounds_toArray, List.set_cons_zero, List.set_cons_succ]
          refine quiet_nil hL9 ?_
          clear hL9
          intro w6 hX6
          have HO6 := Lib.hid (HOQ.out.trans hX6)
          have HM6 := Lib.hid (HM.out.on HO6.out)
          have HV6 := Lib.hid (HV.out.on HO6.out)
          obtain ⟨v1, w7, Z1, r1, hn1, hF1, o67⟩ := put_head HO6.out.tab HM6.out hk2 j (by omega)
          have hs1 := fun wx => slice_lo (P := Tryz.prog) 22 34 Tryz.underlying22 2 size_mo (some ⟨g, o, none⟩) k cap j (by omega) wx
          have R1 := Lib.hid r1
          have HN1 := Lib.hid hn1
          have HF1 := Lib.hid hF1
          have HO67 := Lib.hid o67
          clear r1 hn1 hF1 o67 hX6
          go_wp2_with (at_builtin; refine wp_appendJ rfl (.tmp 26) (.tmp 29) _ _ rfl _ _ v1 rfl rfl R1.out ?_)
          have HOQ := Lib.hid (HO6.out.trans HO67.out)
          have x0q := (HOQ.out.cell (p := ⟨Bx, 0, none⟩) (cell_size x0)).trans x0
          have x1q := (HOQ.out.cell (p := ⟨Bx, 1, none⟩) (cell_size x1)).trans x1
          have d1 := (HOQ.out.cell (p := ⟨g, o + j * 2 + 1, none⟩) (cell_size d1')).trans d1'
          have HCM := Lib.hid (fun (wx : World) => HCM1.out w7 wx HOQ.out)
          have HDV := Lib.hid (HDV1.out.on HO6.out)
          refine region_keep_tail (fun wx => On w7 wx) 14 (by kernel_rfl) (by kernel_rfl) (On.refl HOQ.out.tab).drew ?_
          simp only [List.take_succ_cons, List.take_zero, List.drop_succ_cons, List.drop_zero]
          refine quiet_start fun L9 hL9 => ?_
          refine quiet_take (v := ?kcv0) hL9 (by kernel_rfl) (fun wq hwq => ?kcy0) (fun L9 hL9 => ?kcr0)
          case kcy0 => (go_simp; try with_reducible rfl)
          try simp only [Act.put, List.setIfInBounds_toArray, List.set_cons_zero, List.set_cons_succ]
          refine quiet_take (v := ?kcv1) hL9 (by kernel_rfl) (fun wq hwq => ?kcy1) (fun L9 hL9 => ?kcr1)
          case kcy1 => (go_simp; try with_reducible rfl)
          try simp only [Act.put, List.setIfInBounds_toArray, List.set_cons_zero, List.set_cons_succ]
          refine quiet_take (v := ?kcv2) hL9 (by kernel_rfl) (fun wq hwq => ?kcy2) (fun L9 hL9 => ?kcr2)
          case kcy2 => (go_simp; try with_reducible rfl)
          try simp only [Act.put, List.setIfInBounds_toArray, List.set_cons_zero, List.set_cons_succ]
          refine quiet_take (v := ?kcv3) hL9 (by kernel_rfl) (fun wq hwq => ?kcy3) (fun L9 hL9 => ?kcr3)
          case kcy3 => (go_simp; try with_reducible rfl)
          try simp only [Act.put, List.setIfInBounds_toArray, List.set_cons_zero, List.set_cons_succ]
          refine quiet_take (v := ?kcv4) hL9 (by kernel_rfl) (fun wq hwq => ?kcy4) (fun L9 hL9 => ?kcr4)
          case kcy4 => (go_simp; try with_reducible rfl)
          try simp only [Act.put, List.setIfInBounds_toArray, List.set_cons_zero, List.set_cons_succ]
          refine quiet_take (v := ?kcv5) hL9 (by kernel_rfl) (fun wq hwq => ?kcy5) (fun L9 hL9 => ?kcr5)
          case kcy5 => (go_simp; try with_reducible rfl)
          try simp only [Act.put, List.setIfInBounds_toArray, List.set_cons_zero, List.set_cons_succ]
          refine quiet_take (v := ?kcv6) hL9 (by kernel_rfl) (fun wq hwq => ?kcy6) (fun L9 hL9 => ?kcr6)
          case kcy6 => (go_simp; try with_reducible rfl)
          try simp only [Act.put, List.setIfInBounds_toArray, List.set_cons_zero, List.set_cons_succ]
          refine quiet_take (v := ?kcv7) hL9 (by kernel_rfl) (fun wq hwq => ?kcy7) (fun L9 hL9 => ?kcr7)
          case kcy7 => (go_simp; try with_reducible rfl)
          try simp only [Act.put, List.setIfInBounds_toArray, List.set_cons_zero, List.set_cons_succ]
          refine quiet_take (v := ?kcv8) hL9 (by kernel_rfl) (fun wq hwq => ?kcy8) (fun L9 hL9 => ?kcr8)
          case kcy8 => (go_simp; try with_reducible rfl)
          try simp only [Act.put, List.setIfInBounds_toArray, List.set_cons_zero, List.set_cons_succ]
          refine quiet_take (v := ?kcv9) hL9 (by kernel_rfl) (fun wq hwq => ?kcy9) (fun L9 hL9 => ?kcr9)
          case kcy9 => (have k0 := (hwq.cell (p := ⟨g, o + j * 2 + 1, none⟩) (cell_size d1)).trans d1; have k1 := (hwq.cell (p := ⟨Bx, 1, none⟩) (cell_size x1q)).trans x1q; go_simp; try with_reducible rfl)
          try simp only [Act.put, List.setIfInBounds_toArray, List.set_cons_zero, List.set_cons_succ]
          refine quiet_take (v := ?kcv10) hL9 (by kernel_rfl) (fun wq hwq => ?kcy10) (fun L9 hL9 => ?kcr10)
          case kcy10 => (go_simp; try with_reducible rfl)
          try simp only [Act.put, List.setIfInBounds_toArray, List.set_cons_zero, List.set_cons_succ]
          refine quiet_take (v := ?kcv11) hL9 (by kernel_rfl) (fun wq hwq => ?kcy11) (fun L9 hL9 => ?kcr11)
          case kcy11 => (have k0 := (hwq.cell (p := ⟨g, o + j * 2 + 1, none⟩) (cell_size d1)).trans d1; have k1 := (hwq.cell (p := ⟨Bx, 1, none⟩) (cell_size x1q)).trans x1q; go_simp; try with_reducible rfl)
          try simp only [Act.put, List.setIfInBounds_toArray, List.set_cons_zero, List.set_cons_succ]
          refine quiet_take (v := .int .i64 0) hL9 (by kernel_rfl) (fun wq hwq => ?kcy12) (fun L9 hL9 => ?kcr12)
          case kcy12 => (go_simp; go_at_call 49; exact HCM.out _ hwq)
          try simp only [Act.put, List.setIfInBounds_toArray, List.set_cons_zero, List.set_cons_succ]
          refine quiet_take (v := ?kcv13) hL9 (by kernel_rfl) (fun wq hwq => ?kcy13) (fun L9 hL9 => ?kcr13)
          case kcy13 => (go_simp; try with_reducible rfl)
          try simp only [Act.put, List.setIfInBounds_toArray, List.set_cons_zero, List.set_cons_succ]
          refine quiet_nil hL9 ?_
          clear hL9
          intro w8 hX8
          have HO8 := Lib.hid (HO67.out.trans hX8)
          have HX8 := Lib.hid hX8
          clear d1 x0q x1q hX8
          have d0 := (HO6.out.cell (p := ⟨g, o + j * 2, none⟩) (cell_size d0')).trans d0'
          have d1 := (HO6.out.cell (p := ⟨g, o + j * 2 + 1, none⟩) (cell_size d1')).trans d1'
          have y0 := (HO6.out.cell (p := ⟨Bx, 0, none⟩) (cell_size x0)).trans x0
          go_wp2
          refine region_head_tail (S := fun wx => On w6 wx) 18 (by kernel_rfl) (by kernel_rfl) ?_
          obtain ⟨V0, hV0⟩ : ∃ V0, V0 = w8.drew := ⟨_, rfl⟩
          have hSd : On w6 V0 := by rw [hV0]; exact HO8.out.drew
          have hCd : On w7 V0 := by rw [hV0]; exact HX8.out.drew
          rw [← hV0]
          clear hV0
          refine HeadG.take (i := 0) (v := ?hev1z0) rfl (by kernel_rfl) (by kernel_rfl) (by kernel_rfl) (by kernel_rfl) (by kernel_rfl) (by kernel_rfl) (by kernel_rfl) (fun _ _ _ h => h) (Or.inl ⟨by kernel_rfl, ?hey1z0⟩) hSd ?her1z0
          case hey1z0 => (intro w' hSw; skip; go_simp; try with_reducible rfl)
          try simp only [Act.put, List.setIfInBounds_toArray, List.set_cons_zero, List.set_cons_succ, List.getElem_toArray, List.getElem_cons_zero, List.getElem_cons_succ]
          refine HeadG.take (i := 1) (v := ?hev2z1) rfl (by kernel_rfl) (by kernel_rfl) (by kernel_rfl) (by kernel_rfl) (by kernel_rfl) (by kernel_rfl) (by kernel_rfl) (fun _ _ _ h => h) (Or.inl ⟨by kernel_rfl, ?hey2z1⟩) hSd ?her2z1
          case hey2z1 => (intro w' hSw; skip; go_simp; try with_reducible rfl)
          try simp only [Act.put, List.setIfInBounds_toArray, List.set_cons_zero, List.set_cons_succ, List.getElem_toArray, List.getElem_cons_zero, List.getElem_cons_succ]
          refine HeadG.take (i := 2) (v := ?hev3z2) rfl (by kernel_rfl) (by kernel_rfl) (by kernel_rfl) (by kernel_rfl) (by kernel_rfl) (by kernel_rfl) (by kernel_rfl) (fun _ _ _ h => h) (Or.inl ⟨by kernel_rfl, ?hey3z2⟩) hSd ?her3z2
          case hey3z2 => (intro w' hSw; skip; go_simp; try with_reducible rfl)
          try simp only [Act.put, List.setIfInBounds_toArray, List.set_cons_zero, List.set_cons_succ, List.getElem_toArray, List.getElem_cons_zero, List.getElem_cons_succ]
          refine HeadG.take (i := 3) (v := ?hev4z3) rfl (by kernel_rfl) (by kernel_rfl) (by kernel_rfl) (by kernel_rfl) (by kernel_rfl) (by kernel_rfl) (by kernel_rfl) (fun _ _ _ h => h) (Or.inl ⟨by kernel_rfl, ?hey4z3⟩) hSd ?her4z3
          case hey4z3 => (intro w' hSw; skip; go_simp; try with_reducible rfl)
          try simp only [Act.put, List.setIfInBounds_toArray, List.set_cons_zero, List.set_cons_succ, List.getElem_toArray, List.getElem_cons_zero, List.getElem_cons_succ]
          refine HeadG.take (i := 4) (v := ?hev5z4) rfl (by kernel_rfl) (by kernel_rfl) (by kernel_rfl) (by kernel_rfl) (by kernel_rfl) (by kernel_rfl) (by kernel_rfl) (fun _ _ _ h => h) (Or.inl ⟨by kernel_rfl, ?hey5z4⟩) hSd ?her5z4
          case hey5z4 => (intro w' hSw; skip; go_simp; try with_reducible rfl)
          try simp only [Act.put, List.setIfInBounds_toArray, List.set_cons_zero, List.set_cons_succ, List.getElem_toArray, List.getElem_cons_zero, List.getElem_cons_succ]
          refine HeadG.take (i := 5) (v := ?hev6z5) rfl (by kernel_rfl) (by kernel_rfl) (by kernel_rfl) (by kernel_rfl) (by kernel_rfl) (by kernel_rfl) (by kernel_rfl) (fun _ _ _ h => h) (Or.inl ⟨by kernel_rfl, ?hey6z5⟩) hSd ?her6z5
          case hey6z5 => (intro w' hSw; skip; go_simp; try with_reducible rfl)
          try simp only [Act.put, List.setIfInBounds_toArray, List.set_cons_zero, List.set_cons_succ, List.getElem_toArray, List.getElem_cons_zero, List.getElem_cons_succ]
          refine HeadG.take (i := 6) (v := ?hev7z6) rfl (by kernel_rfl) (by kernel_rfl) (by kernel_rfl) (by kernel_rfl) (by kernel_rfl) (by kernel_rfl) (by kernel_rfl) (fun _ _ _ h => h) (Or.inl ⟨by kernel_rfl, ?hey7z6⟩) hSd ?her7z6
          case hey7z6 => (intro w' hSw; have k0 := (hSw.cell (p := ⟨g, o + j * 2, none⟩) (cell_size d0)).trans d0; have k1 := (hSw.cell (p := ⟨g, o + j * 2 + 1, none⟩) (cell_size d1)).trans d1; have k2 := (hSw.cell (p := ⟨Bx, 0, none⟩) (cell_size y0)).trans y0; go_simp; try with_reducible rfl)
          try simp only [Act.put, List.setIfInBounds_toArray, List.set_cons_zero, List.set_cons_succ, List.getElem_toArray, List.getElem_cons_zero, List.getElem_cons_succ]
          refine HeadG.take (i := 7) (v := ?hev8z7) rfl (by kernel_rfl) (by kernel_rfl) (by kernel_rfl) (by kernel_rfl) (by kernel_rfl) (by kernel_rfl) (by kernel_rfl) (fun _ _ _ h => h) (Or.inl ⟨by kernel_rfl, ?hey8z7⟩) hSd ?her8z7
          case hey8z7 => (intro w' hSw; skip; go_simp; try with_reducible rfl)
          try simp only [Act.put, List.setIfInBounds_toArray, List.set_cons_zero, List.set_cons_succ, List.getElem_toArray, List.getElem_cons_zero, List.getElem_cons_succ]
          refine HeadG.take (i := 8) (v := ?hev9z8) rfl (by kernel_rfl) (by kernel_rfl) (by kernel_rfl) (by kernel_rfl) (by kernel_rfl) (by kernel_rfl) (by kernel_rfl) (fun _ _ _ h => h) (Or.inl ⟨by kernel_rfl, ?hey9z8⟩) hSd ?her9z8
          case hey9z8 => (intro w' hSw; have k0 := (hSw.cell (p := ⟨g, o + j * 2, none⟩) (cell_size d0)).trans d0; have k1 := (hSw.cell (p := ⟨g, o + j * 2 + 1, none⟩) (cell_size d1)).trans d1; have k2 := (hSw.cell (p := ⟨Bx, 0, none⟩) (cell_size y0)).trans y0; go_simp; try with_reducible rfl)
          try simp only [Act.put, List.setIfInBounds_toArray, List.set_cons_zero, List.set_cons_succ, List.getElem_toArray, List.getElem_cons_zero, List.getElem_cons_succ]
          refine HeadG.take (i := 10) (v := ?hev10z10) rfl (by kernel_rfl) (by kernel_rfl) (by kernel_rfl) (by kernel_rfl) (by kernel_rfl) (by kernel_rfl) (by kernel_rfl) (fun _ _ _ h => h) (Or.inl ⟨by kernel_rfl, ?hey10z10⟩) hSd ?her10z10
          case hey10z10 => (intro w' hSw; skip; go_simp; try with_reducible rfl)
          try simp only [Act.put, List.setIfInBounds_toArray, List.set_cons_zero, List.set_cons_succ, List.getElem_toArray, List.getElem_cons_zero, List.getElem_cons_succ]
          refine HeadG.take (i := 11) (v := ?hev11z11) rfl (by kernel_rfl) (by kernel_rfl) (by kernel_rfl) (by kernel_rfl) (by kernel_rfl) (by kernel_rfl) (by kernel_rfl) (fun _ _ _ h => h) (Or.inl ⟨by kernel_rfl, ?hey11z11⟩) hSd ?her11z11
          case hey11z11 => (intro w' hSw; skip; go_simp; try with_reducible rfl)
          try simp only [Act.put, List.setIfInBounds_toArray, List.set_cons_zero, List.set_cons_succ, List.getElem_toArray, List.getElem_cons_zero, List.getElem_cons_succ]
          refine HeadG.take (i := 12) (v := ?hev12z12) rfl (by kernel_rfl) (by kernel_rfl) (by kernel_rfl) (by kernel_rfl) (by kernel_rfl) (by kernel_rfl) (by kernel_rfl) (fun _ _ _ h => h) (Or.inl ⟨by kernel_rfl, ?hey12z12⟩) hSd ?her12z12
          case hey12z12 => (intro w' hSw; skip; go_simp; try with_reducible rfl)
          try simp only [Act.put, List.setIfInBounds_toArray, List.set_cons_zero, List.set_cons_succ, List.getElem_toArray, List.getElem_cons_zero, List.getElem_cons_succ]
          refine HeadG.take (i := 13) (v := ?hev13z13) rfl (by kernel_rfl) (by kernel_rfl) (by kernel_rfl) (by kernel_rfl) (by kernel_rfl) (by kernel_rfl) (by kernel_rfl) (fun _ _ _ h => h) (Or.inl ⟨by kernel_rfl, ?hey13z13⟩) hSd ?her13z13
          case hey13z13 => (intro w' hSw; skip; go_simp; try with_reducible rfl)
          try simp only [Act.put, List.setIfInBounds_toArray, List.set_cons_zero, List.set_cons_succ, List.getElem_toArray, List.getElem_cons_zero, List.getElem_cons_succ]
          refine HeadG.take (i := 14) (v := ?hev14z14) rfl (by kernel_rfl) (by kernel_rfl) (by kernel_rfl) (by kernel_rfl) (by kernel_rfl) (by kernel_rfl) (by kernel_rfl) (fun _ _ _ h => h) (Or.inl ⟨by kernel_rfl, ?hey14z14⟩) hSd ?her14z14
          case hey14z14 => (intro w' hSw; have k0 := (hSw.cell (p := ⟨g, o + j * 2, none⟩) (cell_size d0)).trans d0; have k1 := (hSw.cell (p := ⟨g, o + j * 2 + 1, none⟩) (cell_size d1)).trans d1; have k2 := (hSw.cell (p := ⟨Bx, 0, none⟩) (cell_size y0)).trans y0; go_simp; try with_reducible rfl)
          try simp only [Act.put, List.setIfInBounds_toArray, List.set_cons_zero, List.set_cons_succ, List.getElem_toArray, List.getElem_cons_zero, List.getElem_cons_succ]
          refine HeadG.one (i := 9) rfl (by kernel_rfl) (by kernel_rfl) (fun K9 hK9 => ?_)
          go_simp
          go_at_call 22
          with_reducible refine (radd_any f dc c V0 hdc (by omega)).mono ?_
          rintro e wm ⟨rfl, hd⟩
          have hSm := hSd.drawn hd
          have hCm := hCd.drawn hd
          clear hd
          refine hK9.out _ _ hSm ?_
          clear hK9 K9
          try simp only [Act.put, List.setIfInBounds_toArray, List.set_cons_zero, List.set_cons_succ, List.getElem_toArray, List.getElem_cons_zero, List.getElem_cons_succ]
          refine HeadG.one (i := 15) rfl (by kernel_rfl) (by kernel_rfl) (fun K9 hK9 => ?_)
          go_simp
          refine hK9.out _ _ hSm ?_
          clear hK9 K9
          try simp only [Act.put, List.setIfInBounds_toArray, List.set_cons_zero, List.set_cons_succ, List.getElem_toArray, List.getElem_cons_zero, List.getElem_cons_succ]
          have hn9 := own_on HN1.out hCm
          obtain ⟨v2, wb, oa3, cap3, wa, r2, r3, hm3, hc3, hc4, o2, o3⟩ := put_tail (W := w6) (e := j + 1) hSm hn9 HF1.out HM6.out hkc (by omega) (by omega) hk2 (addF f dc c) (by have := addF_le f dc c; omega) dv ad cad HDV.out
          rw [HDL.out] at r2
          have hs2 := fun wx => slice_hi (P := Tryz.prog) 22 34 Tryz.underlying22 2 size_mo (some ⟨g, o, none⟩) k cap (j + 1) (by omega) wx
          rw [show ((j + 1 : Nat) : Int) = (j : Int) + 1 from by omega] at hs2
          have R2 := Lib.hid r2
          have R3 := Lib.hid r3
          have HMM := Lib.hid hm3
          have HC3 := Lib.hid hc3
          have HC4 := Lib.hid hc4
          have HO3 := Lib.hid (HO6.out.trans o3)
          clear r2 r3 hm3 hc3 hc4 o3 hn9 d0 d1 y0
          refine HeadG.one (i := 16) rfl (by kernel_rfl) (by kernel_rfl) (fun K9 hK9 => ?_)
          go_simp
          refine hK9.out _ _ (hSm.alloc _) ?_
          clear hK9 K9
          try simp only [Act.put, List.setIfInBounds_toArray, List.set_cons_zero, List.set_cons_succ, List.getElem_toArray, List.getElem_cons_zero, List.getElem_cons_succ]
          refine HeadG.one (i := 17) rfl (by kernel_rfl) (by kernel_rfl) (fun K9 hK9 => ?_)
          refine step_appendJ rfl (.tmp 46) (.tmp 62) _ _ rfl _ _ _ rfl rfl R2.out ?_
          refine hK9.out _ _ o2 ?_
          clear hK9 K9
          try simp only [Act.put, List.setIfInBounds_toArray, List.set_cons_zero, List.set_cons_succ, List.getElem_toArray, List.getElem_cons_zero, List.getElem_cons_succ]
          refine HeadG.last (i := 18) rfl (by kernel_rfl) (by kernel_rfl) (by kernel_rfl) (fun K9 hK9 => ?_)
          go_simp
          refine hK9.out _ _ ?_
          clear hK9 K9
          try simp only [Act.put, List.setIfInBounds_toArray, List.set_cons_zero, List.set_cons_succ, List.getElem_toArray, List.getElem_cons_zero, List.getElem_cons_succ]
          clear hSd hCd hSm hCm o2
          go_wp2_with (at_builtin; refine wp_appendJ rfl (.tmp 64) (.tmp 68) _ _ rfl _ _ _ rfl rfl R3.out ?_)
          go_ret
          exact ⟨⟨_, _, _, _, rfl, HC3.out, HC4.out, by omega, HMM.out, HPO.out.1, HPO.out.2⟩, HO1.out.trans HO3.out⟩
        · have HPN := Lib.hid (put_new (c := c) HDD.out (Nat.le_of_lt HJD.out) HTT.out (.inr ⟨by rw [← HCD.out]; exact hb, by rw [← HCD.out]; exact he⟩) HC1.out)
          have e0 := beq_no he
          obtain ⟨dl, hdl⟩ : ∃ dl, (D.getD j zM).2.length = dl := ⟨_, rfl⟩
          rw [hdl] at d1 d1' HCM HCM1
          clear hdl HCD he
          go_wp2
          refine region_keep_tail (fun wx => On wq wx) 14 (by kernel_rfl) (by kernel_rfl) (On.refl HOQ.out.tab).drew ?_
          simp only [List.take_succ_cons, List.take_zero, List.drop_succ_cons, List.drop_zero]
          refine quiet_start fun L9 hL9 => ?_
          refine quiet_take (v := ?kdv0) hL9 (by kernel_rfl) (fun wq hwq => ?kdy0) (fun L9 hL9 => ?kdr0)
          case kdy0 => (go_simp; try with_reducible rfl)
          try simp only [Act.put, List.setIfInBounds_toArray, List.set_cons_zero, List.set_cons_succ]
          refine quiet_take (v := ?kdv1) hL9 (by kernel_rfl) (fun wq hwq => ?kdy1) (fun L9 hL9 => ?kdr1)
          case kdy1 => (go_simp; try with_reducible rfl)
          try simp only [Act.put, List.setIfInBounds_toArray, List.set_cons_zero, List.set_cons_succ]
          refine quiet_take (v := ?kdv2) hL9 (by kernel_rfl) (fun wq hwq => ?kdy2) (fun L9 hL9 => ?kdr2)
          case kdy2 => (go_simp; try with_reducible rfl)
          try simp only [Act.put, List.setIfInBounds_toArray, List.set_cons_zero, List.set_cons_succ]
          refine quiet_take (v := ?kdv3) hL9 (by kernel_rfl) (fun wq hwq => ?kdy3) (fun L9 hL9 => ?kdr3)
          case kdy3 => (go_simp; try with_reducible rfl)
          try simp only [Act.put, List.setIfInBounds_toArray, List.set_cons_zero, List.set_cons_succ]
          refine quiet_take (v := ?kdv4) hL9 (by kernel_rfl) (fun wq hwq => ?kdy4) (fun L9 hL9 => ?kdr4)
          case kdy4 => (go_simp; try with_reducible rfl)
          try simp only [Act.put, List.setIfInBounds_toArray, List.set_cons_zero, List.set_cons_succ]
          refine quiet_take (v := ?kdv5) hL9 (by kernel_rfl) (fun wq hwq => ?kdy5) (fun L9 hL9 => ?kdr5)
          case kdy5 => (go_simp; try with_reducible rfl)
          try simp only [Act.put, List.setIfInBounds_toArray, List.set_cons_zero, List.set_cons_succ]
          refine quiet_take (v := ?kdv6) hL9 (by kernel_rfl) (fun wq hwq => ?kdy6) (fun L9 hL9 => ?kdr6)
          case kdy6 => (go_simp; try with_reducible rfl)
          try simp only [Act.put, List.setIfInBounds_toArray, List.set_cons_zero, List.set_cons_succ]
          refine quiet_take (v := ?kdv7) hL9 (by kernel_rfl) (fun wq hwq => ?kdy7) (fun L9 hL9 => ?kdr7)
          case kdy7 => (go_simp; try with_reducible rfl)
          try simp only [Act.put, List.setIfInBounds_toArray, List.set_cons_zero, List.set_cons_succ]
          refine quiet_take (v := ?kdv8) hL9 (by kernel_rfl) (fun wq hwq => ?kdy8) (fun L9 hL9 => ?kdr8)
          case kdy8 => (go_simp; try with_reducible rfl)
          try simp only [Act.put, List.setIfInBounds_toArray, List.set_cons_zero, List.set_cons_succ]
          refine quiet_take (v := ?kdv9) hL9 (by kernel_rfl) (fun wq hwq => ?kdy9) (fun L9 hL9 => ?kdr9)
          case kdy9 => (have k0 := (hwq.cell (p := ⟨g, o + j * 2 + 1, none⟩) (cell_size d1)).trans d1; have k1 := (hwq.cell (p := ⟨Bx, 1, none⟩) (cell_size x1q)).trans x1q; go_simp; try with_reducible rfl)
          try simp only [Act.put, List.setIfInBounds_toArray, List.set_cons_zero, List.set_cons_succ]
          refine quiet_take (v := ?kdv10) hL9 (by kernel_rfl) (fun wq hwq => ?kdy10) (fun L9 hL9 => ?kdr10)
          case kdy10 => (go_simp; try with_reducible rfl)
          try simp only [Act.put, List.setIfInBounds_toArray, List.set_cons_zero, List.set_cons_succ]
          refine quiet_take (v := ?kdv11) hL9 (by kernel_rfl) (fun wq hwq => ?kdy11) (fun L9 hL9 => ?kdr11)
          case kdy11 => (have k0 := (hwq.cell (p := ⟨g, o + j * 2 + 1, none⟩) (cell_size d1)).trans d1; have k1 := (hwq.cell (p := ⟨Bx, 1, none⟩) (cell_size x1q)).trans x1q; go_simp; try with_reducible rfl)
          try simp only [Act.put, List.setIfInBounds_toArray, List.set_cons_zero, List.set_cons_succ]
          refine quiet_take (v := .int .i64 cd) hL9 (by kernel_rfl) (fun wq hwq => ?kdy12) (fun L9 hL9 => ?kdr12)
          case kdy12 => (go_simp; go_at_call 49; exact HCM.out _ hwq)
          try simp only [Act.put, List.setIfInBounds_toArray, List.set_cons_zero, List.set_cons_succ]
          refine quiet_take (v := ?kdv13) hL9 (by kernel_rfl) (fun wq hwq => ?kdy13) (fun L9 hL9 => ?kdr13)
          case kdy13 => (go_simp; try with_reducible rfl)
          try simp only [Act.put, List.setIfInBounds_toArray, List.set_cons_zero, List.set_cons_succ]
          refine quiet_nil hL9 ?_
          clear hL9
          intro w6 hX6
          have HO6 := Lib.hid (HOQ.out.trans hX6)
          have HM6 := Lib.hid (HM.out.on HO6.out)
          have HV6 := Lib.hid (HV.out.on HO6.out)
          obtain ⟨v1, w7, Z1, r1, hn1, hF1, o67⟩ := put_head HO6.out.tab HM6.out hk2 j (by omega)
          have hs1 := fun wx => slice_lo (P := Tryz.prog) 22 34 Tryz.underlying22 2 size_mo (some ⟨g, o, none⟩) k cap j (by omega) wx
          have R1 := Lib.hid r1
          have HN1 := Lib.hid hn1
          have HF1 := Lib.hid hF1
          have HO67 := Lib.hid o67
          clear r1 hn1 hF1 o67 hX6
          go_wp2_with (at_builtin; refine wp_appendJ rfl (.tmp 26) (.tmp 29) _ _ rfl _ _ v1 rfl rfl R1.out ?_)
          have HOQ := Lib.hid (HO6.out.trans HO67.out)
          have x0q := (HOQ.out.cell (p := ⟨Bx, 0, none⟩) (cell_size x0)).trans x0
          have x1q := (HOQ.out.cell (p := ⟨Bx, 1, none⟩) (cell_size x1)).trans x1
          have d1 := (HOQ.out.cell (p := ⟨g, o + j * 2 + 1, none⟩) (cell_size d1')).trans d1'
          have HCM := Lib.hid (fun (wx : World) => HCM1.out w7 wx HOQ.out)
          refine region_keep_tail (fun wx => On w7 wx) 14 (by kernel_rfl) (by kernel_rfl) (On.refl HOQ.out.tab).drew ?_
          simp only [List.take_succ_cons, List.take_zero, List.drop_succ_cons, List.drop_zero]
          refine quiet_start fun L9 hL9 => ?_
          refine quiet_take (v := ?kev0) hL9 (by kernel_rfl) (fun wq hwq => ?key0) (fun L9 hL9 => ?ker0)
          case key0 => (go_simp; try with_reducible rfl)
          try simp only [Act.put, List.setIfInBounds_toArray, List.set_cons_zero, List.set_cons_succ]
          refine quiet_take (v := ?kev1) hL9 (by kernel_rfl) (fun wq hwq => ?key1) (fun L9 hL9 => ?ker1)
          case key1 => (go_simp; try with_reducible rfl)
          try simp only [Act.put, List.setIfInBounds_toArray, List.set_cons_zero, List.set_cons_succ]
          refine quiet_take (v := ?kev2) hL9 (by kernel_rfl) (fun wq hwq => ?key2) (fun L9 hL9 => ?ker2)
          case key2 => (go_simp; try with_reducible rfl)
          try simp only [Act.put, List.setIfInBounds_toArray, List.set_cons_zero, List.set_cons_succ]
          refine quiet_take (v := ?kev3) hL9 (by kernel_rfl) (fun wq hwq => ?key3) (fun L9 hL9 => ?ker3)
          case key3 => (go_simp; try with_reducible rfl)
          try simp only [Act.put, List.setIfInBounds_toArray, List.set_cons_zero, List.set_cons_succ]
          refine quiet_take (v := ?kev4) hL9 (by kernel_rfl) (fun wq hwq => ?key4) (fun L9 hL9 => ?ker4)
          case key4 => (go_simp; try with_reducible rfl)
          try simp only [Act.put, List.setIfInBounds_toArray, List.set_cons_zero, List.set_cons_succ]
          refine quiet_take (v := ?kev5) hL9 (by kernel_rfl) (fun wq hwq => ?key5) (fun L9 hL9 => ?ker5)
          case key5 => (go_simp; try with_reducible rfl)
          try simp only [Act.put, List.setIfInBounds_toArray, List.set_cons_zero, List.set_cons_succ]
          refine quiet_take (v := ?kev6) hL9 (by kernel_rfl) (fun wq hwq => ?key6) (fun L9 hL9 => ?ker6)
          case key6 => (go_simp; try with_reducible rfl)
          try simp only [Act.put, List.setIfInBounds_toArray, List.set_cons_zero, List.set_cons_succ]
          refine quiet_take (v := ?kev7) hL9 (by kernel_rfl) (fun wq hwq => ?key7) (fun L9 hL9 => ?ker7)
          case key7 => (go_simp; try with_reducible rfl)
          try simp only [Act.put, List.setIfInBounds_toArray, List.set_cons_zero, List.set_cons_succ]
          refine quiet_take (v := ?kev8) hL9 (by kernel_rfl) (fun wq hwq => ?key8) (fun L9 hL9 => ?ker8)
          case key8 => (go_simp; try with_reducible rfl)
          try simp only [Act.put, List.setIfInBounds_toArray, List.set_cons_zero, List.set_cons_succ]
          refine quiet_take (v := ?kev9) hL9 (by kernel_rfl) (fun wq hwq => ?key9) (fun L9 hL9 => ?ker9)
          case key9 => (have k0 := (hwq.cell (p := ⟨g, o + j * 2 + 1, none⟩) (cell_size d1)).trans d1; have k1 := (hwq.cell (p := ⟨Bx, 1, none⟩) (cell_size x1q)).trans x1q; go_simp; try with_reducible rfl)
          try simp only [Act.put, List.setIfInBounds_toArray, List.set_cons_zero, List.set_cons_succ]
          refine quiet_take (v := ?kev10) hL9 (by kernel_rfl) (fun wq hwq => ?key10) (fun L9 hL9 => ?ker10)
          case key10 => (go_simp; try with_reducible rfl)
          try simp only [Act.put, List.setIfInBounds_toArray, List.set_cons_zero, List.set_cons_succ]
          refine quiet_take (v := ?kev11) hL9 (by kernel_rfl) (fun wq hwq => ?key11) (fun L9 hL9 => ?ker11)
          case key11 => (have k0 := (hwq.cell (p := ⟨g, o + j * 2 + 1, none⟩) (cell_size d1)).trans d1; have k1 := (hwq.cell (p := ⟨Bx, 1, none⟩) (cell_size x1q)).trans x1q; go_simp; try with_reducible rfl)
          try simp only [Act.put, List.setIfInBounds_toArray, List.set_cons_zero, List.set_cons_succ]
          refine quiet_take (v := .int .i64 cd) hL9 (by kernel_rfl) (fun wq hwq => ?key12) (fun L9 hL9 => ?ker12)
          case key12 => (go_simp; go_at_call 49; exact HCM.out _ hwq)
          try simp only [Act.put, List.setIfInBounds_toArray, List.set_cons_zero, List.set_cons_succ]
          refine quiet_take (v := ?kev13) hL9 (by kernel_rfl) (fun wq hwq => ?key13) (fun L9 hL9 => ?ker13)
          case key13 => (go_simp; try with_reducible rfl)
          try simp only [Act.put, List.setIfInBounds_toArray, List.set_cons_zero, List.set_cons_succ]
          refine quiet_nil hL9 ?_
          clear hL9
          intro w8 hX8
          have HX68 := Lib.hid (HO67.out.trans hX8)
          have hn8 := own_on HN1.out hX8
          obtain ⟨v2, w9, oa3, cap3, wa, r2, r3, hm3, hc3, hc4, o2, o3⟩ := put_tail (e := j) HX68.out hn8 HF1.out HM6.out hkc (by omega) (by omega) hk2 c (by omega) vl a' c' HV6.out
          rw [HNV.out] at r2
          have y0 := (hX8.cell (p := ⟨Bx, 0, none⟩) (cell_size x0q)).trans x0q
          have y1 := (hX8.cell (p := ⟨Bx, 1, none⟩) (cell_size x1q)).trans x1q
          have hs2 := fun wx => slice_hi (P := Tryz.prog) 22 34 Tryz.underlying22 2 size_mo (some ⟨g, o, none⟩) k cap j (by omega) wx
          clear d1
          have R2 := Lib.hid r2
          have R3 := Lib.hid r3
          have HMM := Lib.hid hm3
          have HC3 := Lib.hid hc3
          have HC4 := Lib.hid hc4
          have HO3 := Lib.hid (HO6.out.trans o3)
          clear r2 r3 hm3 hc3 hc4 o2 o3 hX8 hn8 x0q x1q
          go_wp2_with (at_builtin; first | refine wp_appendJ rfl (.tmp 70) (.tmp 72) _ _ rfl _ _ v2 rfl rfl R2.out ?_ | refine wp_appendJ rfl (.tmp 74) (.tmp 77) _ _ rfl _ _ _ rfl rfl R3.out ?_)
          go_ret
          exact ⟨⟨_, _, _, _, rfl, HC3.out, HC4.out, by omega, HMM.out, HPN.out.1, fun u => by rw [HPN.out.2 u]⟩, HO1.out.trans HO3.out⟩
    · obtain rfl : j = k := by omega
      have HPN := Lib.hid (put_new (c := c) HDD.out (by rw [← HKD.out]; exact Nat.le_refl _) HTT.out (.inl HKD.out) HC1.out)
      go_wp2
      refine region_keep_tail (fun wx => On wq wx) 14 (by kernel_rfl) (by kernel_rfl) (On.refl HOQ.out.tab).drew ?_
      simp only [List.take_succ_cons, List.take_zero, List.drop_succ_cons, List.drop_zero]
      refine quiet_start fun L9 hL9 => ?_
      refine quiet_take (v := ?kfv0) hL9 (by kernel_rfl) (fun wq hwq => ?kfy0) (fun L9 hL9 => ?kfr0)
      case kfy0 => (go_simp; try with_reducible rfl)
      try simp only [Act.put, List.setIfInBounds_toArray, List.set_cons_zero, List.set_cons_succ]
      refine quiet_take (v := ?kfv1) hL9 (by kernel_rfl) (fun wq hwq => ?kfy1) (fun L9 hL9 => ?kfr1)
      case kfy1 => (go_simp; try with_reducible rfl)
      try simp only [Act.put, List.setIfInBounds_toArray, List.set_cons_zero, List.set_cons_succ]
      refine quiet_take (v := ?kfv2) hL9 (by kernel_rfl) (fun wq hwq => ?kfy2) (fun L9 hL9 => ?kfr2)
      case kfy2 => (go_simp; try with_reducible rfl)
      try simp only [Act.put, List.setIfInBounds_toArray, List.set_cons_zero, List.set_cons_succ]
      refine quiet_take (v := ?kfv3) hL9 (by kernel_rfl) (fun wq hwq => ?kfy3) (fun L9 hL9 => ?kfr3)
      case kfy3 => (go_simp; try with_reducible rfl)
      try simp only [Act.put, List.setIfInBounds_toArray, List.set_cons_zero, List.set_cons_succ]
      refine quiet_take (v := ?kfv4) hL9 (by kernel_rfl) (fun wq hwq => ?kfy4) (fun L9 hL9 => ?kfr4)
      case kfy4 => (go_simp; try with_reducible rfl)
      try simp only [Act.put, List.setIfInBounds_toArray, List.set_cons_zero, List.set_cons_succ]
      refine quiet_skip hL9 (by kernel_rfl) (fun L9 hL9 => ?_)
      try simp only [Act.put, List.setIfInBounds_toArray, List.set_cons_zero, List.set_cons_succ]
      refine quiet_skip hL9 (by kernel_rfl) (fun L9 hL9 => ?_)
      try simp only [Act.put, List.setIfInBounds_toArray, List.set_cons_zero, List.set_cons_succ]
      refine quiet_skip hL9 (by kernel_rfl) (fun L9 hL9 => ?_)
      try simp only [Act.put, List.setIfInBounds_toArray, List.set_cons_zero, List.set_cons_succ]
      refine quiet_skip hL9 (by kernel_rfl) (fun L9 hL9 => ?_)
      try simp only [Act.put, List.setIfInBounds_toArray, List.set_cons_zero, List.set_cons_succ]
      refine quiet_skip hL9 (by kernel_rfl) (fun L9 hL9 => ?_)
      try simp only [Act.put, List.setIfInBounds_toArray, List.set_cons_zero, List.set_cons_succ]
      refine quiet_skip hL9 (by kernel_rfl) (fun L9 hL9 => ?_)
      try simp only [Act.put, List.setIfInBounds_toArray, List.set_cons_zero, List.set_cons_succ]
      refine quiet_skip hL9 (by kernel_rfl) (fun L9 hL9 => ?_)
      try simp only [Act.put, List.setIfInBounds_toArray, List.set_cons_zero, List.set_cons_succ]
      refine quiet_skip hL9 (by kernel_rfl) (fun L9 hL9 => ?_)
      try simp only [Act.put, List.setIfInBounds_toArray, List.set_cons_zero, List.set_cons_succ]
      refine quiet_skip hL9 (by kernel_rfl) (fun L9 hL9 => ?_)
      try simp only [Act.put, List.setIfInBounds_toArray, List.set_cons_zero, List.set_cons_succ]
      refine quiet_nil hL9 ?_
      clear hL9
      intro w6 hX6
      have HO6 := Lib.hid (HOQ.out.trans hX6)
      have HM6 := Lib.hid (HM.out.on HO6.out)
      have HV6 := Lib.hid (HV.out.on HO6.out)
      obtain ⟨v1, w7, Z1, r1, hn1, hF1, o67⟩ := put_head HO6.out.tab HM6.out hk2 j (by omega)
      have hs1 := fun wx => slice_lo (P := Tryz.prog) 22 34 Tryz.underlying22 2 size_mo oa j cap j (by omega) wx
      have R1 := Lib.hid r1
      have HN1 := Lib.hid hn1
      have HF1 := Lib.hid hF1
      have HO67 := Lib.hid o67
      clear r1 hn1 hF1 o67 hX6
      go_wp2_with (at_builtin; refine wp_appendJ rfl (.tmp 26) (.tmp 29) _ _ rfl _ _ v1 rfl rfl R1.out ?_)
      have HOQ := Lib.hid (HO6.out.trans HO67.out)
      have x0q := (HOQ.out.cell (p := ⟨Bx, 0, none⟩) (cell_size x0)).trans x0
      have x1q := (HOQ.out.cell (p := ⟨Bx, 1, none⟩) (cell_size x1)).trans x1
      refine region_keep_tail (fun wx => On w7 wx) 14 (by kernel_rfl) (by kernel_rfl) (On.refl HOQ.out.tab).drew ?_
      simp only [List.take_succ_cons, List.take_zero, List.drop_succ_cons, List.drop_zero]
      refine quiet_start fun L9 hL9 => ?_
      refine quiet_take (v := ?kgv0) hL9 (by kernel_rfl) (fun wq hwq => ?kgy0) (fun L9 hL9 => ?kgr0)
      case kgy0 => (go_simp; try with_reducible rfl)
      try simp only [Act.put, List.setIfInBounds_toArray, List.set_cons_zero, List.set_cons_succ]
      refine quiet_take (v := ?kgv1) hL9 (by kernel_rfl) (fun wq hwq => ?kgy1) (fun L9 hL9 => ?kgr1)
      case kgy1 => (go_simp; try with_reducible rfl)
      try simp only [Act.put, List.setIfInBounds_toArray, List.set_cons_zero, List.set_cons_succ]
      refine quiet_take (v := ?kgv2) hL9 (by kernel_rfl) (fun wq hwq => ?kgy2) (fun L9 hL9 => ?kgr2)
      case kgy2 => (go_simp; try with_reducible rfl)
      try simp only [Act.put, List.setIfInBounds_toArray, List.set_cons_zero, List.set_cons_succ]
      refine quiet_take (v := ?kgv3) hL9 (by kernel_rfl) (fun wq hwq => ?kgy3) (fun L9 hL9 => ?kgr3)
      case kgy3 => (go_simp; try with_reducible rfl)
      try simp only [Act.put, List.setIfInBounds_toArray, List.set_cons_zero, List.set_cons_succ]
      refine quiet_take (v := ?kgv4) hL9 (by kernel_rfl) (fun wq hwq => ?kgy4) (fun L9 hL9 => ?kgr4)
      case kgy4 => (go_simp; try with_reducible rfl)
      try simp only [Act.put, List.setIfInBounds_toArray, List.set_cons_zero, List.set_cons_succ]
      refine quiet_skip hL9 (by kernel_rfl) (fun L9 hL9 => ?_)
      try simp only [Act.put, List.setIfInBounds_toArray, List.set_cons_zero, List.set_cons_succ]
      refine quiet_skip hL9 (by kernel_rfl) (fun L9 hL9 => ?_)
      try simp only [Act.put, List.setIfInBounds_toArray, List.set_cons_zero, List.set_cons_succ]
      refine quiet_skip hL9 (by kernel_rfl) (fun L9 hL9 => ?_)
      try simp only [Act.put, List.setIfInBounds_toArray, List.set_cons_zero, List.set_cons_succ]
      refine quiet_skip hL9 (by kernel_rfl) (fun L9 hL9 => ?_)
      try simp only [Act.put, List.setIfInBounds_toArray, List.set_cons_zero, List.set_cons_succ]
      refine quiet_skip hL9 (by kernel_rfl) (fun L9 hL9 => ?_)
      try simp only [Act.put, List.setIfInBounds_toArray, List.set_cons_zero, List.set_cons_succ]
      refine quiet_skip hL9 (by kernel_rfl) (fun L9 hL9 => ?_)
      try simp only [Act.put, List.setIfInBounds_toArray, List.set_cons_zero, List.set_cons_succ]
      refine quiet_skip hL9 (by kernel_rfl) (fun L9 hL9 => ?_)
      try simp only [Act.put, List.setIfInBounds_toArray, List.set_cons_zero, List.set_cons_succ]
      refine quiet_skip hL9 (by kernel_rfl) (fun L9 hL9 => ?_)
      try simp only [Act.put, List.setIfInBounds_toArray, List.set_cons_zero, List.set_cons_succ]
      refine quiet_skip hL9 (by kernel_rfl) (fun L9 hL9 => ?_)
      try simp only [Act.put, List.setIfInBounds_toArray, List.set_cons_zero, List.set_cons_succ]
      refine quiet_nil hL9 ?_
      clear hL9
      intro w8 hX8
      have HX68 := Lib.hid (HO67.out.trans hX8)
      have hn8 := own_on HN1.out hX8
      obtain ⟨v2, w9, oa3, cap3, wa, r2, r3, hm3, hc3, hc4, o2, o3⟩ := put_tail (e := j) HX68.out hn8 HF1.out HM6.out hkc (by omega) (by omega) hk2 c (by omega) vl a' c' HV6.out
      rw [HNV.out] at r2
      have y0 := (hX8.cell (p := ⟨Bx, 0, none⟩) (cell_size x0q)).trans x0q
      have y1 := (hX8.cell (p := ⟨Bx, 1, none⟩) (cell_size x1q)).trans x1q
      have hs2 := fun wx => slice_hi (P := Tryz.prog) 22 34 Tryz.underlying22 2 size_mo oa j cap j (by omega) wx
      rw [Nat.sub_self] at r3 hm3 hc3
      simp only [Nat.sub_self] at hs2
      have R2 := Lib.hid r2
      have R3 := Lib.hid r3
      have HMM := Lib.hid hm3
      have HC3 := Lib.hid hc3
      have HC4 := Lib.hid hc4
      have HO3 := Lib.hid (HO6.out.trans o3)
      clear r2 r3 hm3 hc3 hc4 o2 o3 hX8 hn8 x0q x1q
      go_wp2_with (at_builtin; first | refine wp_appendJ rfl (.tmp 70) (.tmp 72) _ _ rfl _ _ v2 rfl rfl R2.out ?_ | refine wp_appendJ rfl (.tmp 74) (.tmp 77) _ _ rfl _ _ _ rfl rfl R3.out ?_)
      go_ret
      exact ⟨⟨_, _, _, _, rfl, HC3.out, HC4.out, by omega, HMM.out, HPN.out.1, fun u => by rw [HPN.out.2 u]⟩, HO1.out.trans HO3.out⟩
end Go.Proofs.YtnmdfldgpbfbbaaGreatDoor

/- The document's Normal. -/
namespace Go.Proofs.YtnmdfldgpbfbbaaGreatDoor
open Go.Shelf Go.RowKit Go.Lib Go.Sort
set_option linter.unusedVariables false

theorem coefU_snoc (s : List Mo) (x : Mo) (u : List Vr) : coefU (s ++ [x]) u = coefU s u + if srtV x.2 = u then x.1 else 0 := by simp [coefU]
theorem nz_snoc (s : List Mo) (x : Mo) : nz (s ++ [x]) = nz s ++ if x.1 = 0 then [] else [x] := by
  unfold nz
  rw [List.filter_append, List.filter_cons, List.filter_nil]
  by_cases h : x.1 = 0 <;> simp [h]
theorem ord_nf {f : Int} {D : List Mo} (h : Ord f D) : NF f (nz D) :=
  ⟨h.1.sublist List.filter_sublist, fun m hm => ⟨by have := (List.mem_filter.1 hm).2; simpa using this, h.2 m (List.mem_filter.1 hm).1⟩⟩
theorem put_coef {f : Int} (hp : 0 < pOf f) {s D D2 : List Mo} {k : Nat} (hk : k < s.length) (h : ∀ u, coefN D u % pOf f = coefU (s.take k) u % pOf f)
    (h2 : ∀ u, coefN D2 u % pOf f = (coefN D u + if srtV (s.getD k zM).2 = u then addF f (s.getD k zM).1 0 else 0) % pOf f) : ∀ u, coefN D2 u % pOf f = coefU (s.take (k + 1)) u % pOf f := fun u => by
  rw [h2 u, take_snoc_m s zM k hk, coefU_snoc]
  refine mod_addc (h u) ?_
  split
  · rw [addF_pos f _ _ hp, Nat.mod_mod, Nat.add_zero]
  · rfl
theorem radd0_any (f : Int) (a : Nat) (w : World) (ha : a ≤ 18446744073709551615) :
    Calls Tryz.prog 22 #[.int .i64 f, .int .u64 (a : Int), .int .u64 0] w fun e w' => e = .returned (.int .u64 ((addF f a 0 : Nat) : Int)) ∧ Drawn w w' := radd_any f a 0 w ha (by omega)
theorem rnormal_no (f : Int) (v : Value) (w : World) (hT : Tab w) (hv : validB f = false) :
    Calls Tryz.prog 7 #[.int .i64 f, v] w fun e w' => e = .returned (.tuple #[.slice none 0 0, .int .i64 1]) ∧ On w w' := by
  have HV : Hid (∀ w, Calls Tryz.prog 20 #[.int .i64 f] w fun e w' => e = .returned (.bool false) ∧ w = w') := fun w => by have h := rvalid12_any f w; rw [hv] at h; exact h
  have H0 := Lib.hid (On.refl hT)
  clear hv hT
  go_enter Tryz.func7, Tryz.ntmps7
  go_wp2_with (go_at_call 20; refine (HV.out _).mono ?_; rintro e w' ⟨rfl, rfl⟩)
  go_ret2
  exact ⟨rfl, H0.out⟩
set_option maxRecDepth 100000 in
set_option maxHeartbeats 4000000 in
theorem rnormal_yes (f : Int) (s : List Mo) (v : Value) (w : World) (hT : Tab w) (hv : validB f = true) (hR : MRd w v s) (hs : s.length ≤ 100000) (hl : ∀ m ∈ s, m.2.length ≤ 200000) :
    Calls Tryz.prog 7 #[.int .i64 f, v] w fun e w' => (∃ u, e = .returned (.tuple #[u, .int .i64 0]) ∧ MRd w' u (normS f s)) ∧ On w w' := by
  have hp := (valid_iff f).1 hv
  have HV : Hid (∀ w, Calls Tryz.prog 20 #[.int .i64 f] w fun e w' => e = .returned (.bool true) ∧ w = w') := fun w => by have h := rvalid12_any f w; rw [hv] at h; exact h
  obtain ⟨aa, ca, rfl⟩ := hR.shape
  have HC := Lib.hid hR.cells
  have HLE := Lib.hid hR.le
  have HVL : Hid (∀ k, (s.getD k zM).2.length ≤ 200000) := fun k => by
    rcases Nat.lt_or_ge k s.length with h | h
    · rw [List.getD_eq_getElem?_getD, List.getElem?_eq_getElem h]; exact hl _ (List.getElem_mem _)
    · rw [List.getD_eq_getElem?_getD, List.getElem?_eq_none h]; simp
  have HPP := Lib.hid hp
  have H0 := Lib.hid (On.refl hT)
  obtain ⟨n, hn⟩ : ∃ n, s.length = n := ⟨_, rfl⟩
  have HN := Lib.hid hn
  rw [hn] at HC hs ⊢
  clear hT hR hl hv hp hn
  go_enter Tryz.func7, Tryz.ntmps7
  go_wp2_with (go_at_call 20; refine (HV.out _).mono ?_; rintro e w' ⟨rfl, rfl⟩)
  clear HV
  go_loopw [6, 8] (fun vs vi wr => ∃ k : Nat, k ≤ n ∧ vi = .int .i64 (k : Int) ∧ ∃ oa q cap D, vs = .slice oa q cap ∧ q ≤ cap ∧ cap ≤ 9223372036854775807 ∧ q ≤ k ∧ Hid (MRd wr (.slice oa q cap) D) ∧ Hid (Ord f D) ∧ Hid (∀ u, coefN D u % pOf f = coefU (s.take k) u % pOf f) ∧ Hid (On w wr)) (fun _ vi _ => n - (intOf vi).toNat)
  case atStart => exact ⟨0, Nat.zero_le _, rfl, none, 0, 0, [], rfl, Nat.le_refl _, by omega, Nat.le_refl _, Lib.hid (MRd.nil _ _ _), Lib.hid ⟨List.Pairwise.nil, fun m hm => by cases hm⟩, Lib.hid (fun u => by simp [coefN, coefU]), H0⟩
  case round =>
    rename World => wr
    obtain ⟨k, hk, rfl, oa, q, cap, D, rfl, hqc, hcm, hqk, HM, HD, HCO, HO⟩ := hrel
    by_cases hlt : k < n
    · obtain ⟨g, o, a', c', rfl, c0, c1, c2⟩ := HC.out k hlt
      have hlt' : (k : Int) < (n : Int) := by omega
      have c0' := (HO.out.cell (p := ⟨g, o + k * 2, none⟩) (cell_size c0)).trans c0
      have c1' := (HO.out.cell (p := ⟨g, o + k * 2 + 1, none⟩) (cell_size c1)).trans c1
      have hle := HLE.out k
      have hvl := HVL.out k
      have HXV := Lib.hid (c2.on HO.out)
      have HST : Hid (∀ D2, (∀ u, coefN D2 u % pOf f = (coefN D u + if srtV (s.getD k zM).2 = u then addF f (s.getD k zM).1 0 else 0) % pOf f) → ∀ u, coefN D2 u % pOf f = coefU (s.take (k + 1)) u % pOf f) := fun D2 h2 => put_coef HPP.out (by rw [HN.out]; exact hlt) HCO.out h2
      obtain ⟨x, hx⟩ : ∃ x, x = s.getD k zM := ⟨_, rfl⟩
      rw [← hx] at c0' c1' hle hvl HXV HST
      clear c0 c1 c2 hx HCO
      obtain ⟨xc, xv⟩ := x
      simp only at c0' c1' hle hvl HXV HST
      have HORD := Lib.hid (fun (wx : World) (h : On wr wx) => rordered_any xv (.slice a' xv.length c') wx h.tab (HXV.out.on h) hvl)
      have HPUT := Lib.hid (fun (an : Option Addr) (cn : Nat) (wx : World) (h : On wr wx) (hV : VRd wx (.slice an (srtV xv).length cn) (srtV xv)) => rput_any f D (addF f xc 0) (srtV xv) oa q cap an cn wx h.tab HPP.out (HM.out.on h) hqc hcm hV HD.out (addF_lt f xc 0 HPP.out) (by omega))
      generalize xv.length = xl at c1' HORD
      go_wp2
      refine region_head_tail (S := fun wx => On wr wx) 17 (by kernel_rfl) (by kernel_rfl) ?_
      obtain ⟨V0, hV0⟩ : ∃ V0, V0 = wr.drew := ⟨_, rfl⟩
      have hSd : On wr V0 := by rw [hV0]; exact (On.refl HO.out.tab).drew
      rw [← hV0]
      clear hV0
      refine HeadG.take (i := 0) (v := ?hev1z0) rfl (by kernel_rfl) (by kernel_rfl) (by kernel_rfl) (by kernel_rfl) (by kernel_rfl) (by kernel_rfl) (by kernel_rfl) (fun _ _ _ h => h) (Or.inl ⟨by kernel_rfl, ?hey1z0⟩) hSd ?her1z0
      case hey1z0 => (intro w' hSw; skip; go_simp; try with_reducible rfl)
      try simp only [Act.put, List.setIfInBounds_toArray, List.set_cons_zero, List.set_cons_succ, List.getElem_toArray, List.getElem_cons_zero, List.getElem_cons_succ]
      refine HeadG.take (i := 1) (v := ?hev2z1) rfl (by kernel_rfl) (by kernel_rfl) (by kernel_rfl) (by kernel_rfl) (by kernel_rfl) (by kernel_rfl) (by kernel_rfl) (fun _ _ _ h => h) (Or.inl ⟨by kernel_rfl, ?hey2z1⟩) hSd ?her2z1
      case hey2z1 => (intro w' hSw; skip; go_simp; try with_reducible rfl)
      try simp only [Act.put, List.setIfInBounds_toArray, List.set_cons_zero, List.set_cons_succ, List.getElem_toArray, List.getElem_cons_zero, List.getElem_cons_succ]
      refine HeadG.take (i := 2) (v := ?hev3z2) rfl (by kernel_rfl) (by kernel_rfl) (by kernel_rfl) (by kernel_rfl) (by kernel_rfl) (by kernel_rfl) (by kernel_rfl) (fun _ _ _ h => h) (Or.inl ⟨by kernel_rfl, ?hey3z2⟩) hSd ?her3z2
      case hey3z2 => (intro w' hSw; skip; go_simp; try with_reducible rfl)
      try simp only [Act.put, List.setIfInBounds_toArray, List.set_cons_zero, List.set_cons_succ, List.getElem_toArray, List.getElem_cons_zero, List.getElem_cons_succ]
      refine HeadG.take (i := 3) (v := ?hev4z3) rfl (by kernel_rfl) (by kernel_rfl) (by kernel_rfl) (by kernel_rfl) (by kernel_rfl) (by kernel_rfl) (by kernel_rfl) (fun _ _ _ h => h) (Or.inl ⟨by kernel_rfl, ?hey4z3⟩) hSd ?her4z3
      case hey4z3 => (intro w' hSw; skip; go_simp; try with_reducible rfl)
      try simp only [Act.put, List.setIfInBounds_toArray, List.set_cons_zero, List.set_cons_succ, List.getElem_toArray, List.getElem_cons_zero, List.getElem_cons_succ]
      refine HeadG.take (i := 4) (v := ?hev5z4) rfl (by kernel_rfl) (by kernel_rfl) (by kernel_rfl) (by kernel_rfl) (by kernel_rfl) (by kernel_rfl) (by kernel_rfl) (fun _ _ _ h => h) (Or.inl ⟨by kernel_rfl, ?hey5z4⟩) hSd ?her5z4
      case hey5z4 => (intro w' hSw; skip; go_simp; try with_reducible rfl)
      try simp only [Act.put, List.setIfInBounds_toArray, List.set_cons_zero, List.set_cons_succ, List.getElem_toArray, List.getElem_cons_zero, List.getElem_cons_succ]
      refine HeadG.take (i := 5) (v := ?hev6z5) rfl (by kernel_rfl) (by kernel_rfl) (by kernel_rfl) (by kernel_rfl) (by kernel_rfl) (by kernel_rfl) (by kernel_rfl) (fun _ _ _ h => h) (Or.inl ⟨by kernel_rfl, ?hey6z5⟩) hSd ?her6z5
      case hey6z5 => (intro w' hSw; skip; go_simp; try with_reducible rfl)
      try simp only [Act.put, List.setIfInBounds_toArray, List.set_cons_zero, List.set_cons_succ, List.getElem_toArray, List.getElem_cons_zero, List.getElem_cons_succ]
      refine HeadG.take (i := 6) (v := ?hev7z6) rfl (by kernel_rfl) (by kernel_rfl) (by kernel_rfl) (by kernel_rfl) (by kernel_rfl) (by kernel_rfl) (by kernel_rfl) (fun _ _ _ h => h) (Or.inl ⟨by kernel_rfl, ?hey7z6⟩) hSd ?her7z6
      case hey7z6 => (intro w' hSw; skip; go_simp; try with_reducible rfl)
      try simp only [Act.put, List.setIfInBounds_toArray, List.set_cons_zero, List.set_cons_succ, List.getElem_toArray, List.getElem_cons_zero, List.getElem_cons_succ]
      refine HeadG.take (i := 7) (v := ?hev8z7) rfl (by kernel_rfl) (by kernel_rfl) (by kernel_rfl) (by kernel_rfl) (by kernel_rfl) (by kernel_rfl) (by kernel_rfl) (fun _ _ _ h => h) (Or.inl ⟨by kernel_rfl, ?hey8z7⟩) hSd ?her8z7
      case hey8z7 => (intro w' hSw; have k0 := (hSw.cell (p := ⟨g, o + k * 2, none⟩) (cell_size c0')).trans c0'; have k1 := (hSw.cell (p := ⟨g, o + k * 2 + 1, none⟩) (cell_size c1')).trans c1'; go_simp; try with_reducible rfl)
      try simp only [Act.put, List.setIfInBounds_toArray, List.set_cons_zero, List.set_cons_succ, List.getElem_toArray, List.getElem_cons_zero, List.getElem_cons_succ]
      refine HeadG.take (i := 9) (v := ?hev9z9) rfl (by kernel_rfl) (by kernel_rfl) (by kernel_rfl) (by kernel_rfl) (by kernel_rfl) (by kernel_rfl) (by kernel_rfl) (fun _ _ _ h => h) (Or.inl ⟨by kernel_rfl, ?hey9z9⟩) hSd ?her9z9
      case hey9z9 => (intro w' hSw; skip; go_simp; try with_reducible rfl)
      try simp only [Act.put, List.setIfInBounds_toArray, List.set_cons_zero, List.set_cons_succ, List.getElem_toArray, List.getElem_cons_zero, List.getElem_cons_succ]
      refine HeadG.take (i := 10) (v := ?hev10z10) rfl (by kernel_rfl) (by kernel_rfl) (by kernel_rfl) (by kernel_rfl) (by kernel_rfl) (by kernel_rfl) (by kernel_rfl) (fun _ _ _ h => h) (Or.inl ⟨by kernel_rfl, ?hey10z10⟩) hSd ?her10z10
      case hey10z10 => (intro w' hSw; skip; go_simp; try with_reducible rfl)
      try simp only [Act.put, List.setIfInBounds_toArray, List.set_cons_zero, List.set_cons_succ, List.getElem_toArray, List.getElem_cons_zero, List.getElem_cons_succ]
      refine HeadG.take (i := 11) (v := ?hev11z11) rfl (by kernel_rfl) (by kernel_rfl) (by kernel_rfl) (by kernel_rfl) (by kernel_rfl) (by kernel_rfl) (by kernel_rfl) (fun _ _ _ h => h) (Or.inl ⟨by kernel_rfl, ?hey11z11⟩) hSd ?her11z11
      case hey11z11 => (intro w' hSw; skip; go_simp; try with_reducible rfl)
      try simp only [Act.put, List.setIfInBounds_toArray, List.set_cons_zero, List.set_cons_succ, List.getElem_toArray, List.getElem_cons_zero, List.getElem_cons_succ]
      refine HeadG.take (i := 12) (v := ?hev12z12) rfl (by kernel_rfl) (by kernel_rfl) (by kernel_rfl) (by kernel_rfl) (by kernel_rfl) (by kernel_rfl) (by kernel_rfl) (fun _ _ _ h => h) (Or.inl ⟨by kernel_rfl, ?hey12z12⟩) hSd ?her12z12
      case hey12z12 => (intro w' hSw; skip; go_simp; try with_reducible rfl)
      try simp only [Act.put, List.setIfInBounds_toArray, List.set_cons_zero, List.set_cons_succ, List.getElem_toArray, List.getElem_cons_zero, List.getElem_cons_succ]
      refine HeadG.take (i := 13) (v := ?hev13z13) rfl (by kernel_rfl) (by kernel_rfl) (by kernel_rfl) (by kernel_rfl) (by kernel_rfl) (by kernel_rfl) (by kernel_rfl) (fun _ _ _ h => h) (Or.inl ⟨by kernel_rfl, ?hey13z13⟩) hSd ?her13z13
      case hey13z13 => (intro w' hSw; have k0 := (hSw.cell (p := ⟨g, o + k * 2, none⟩) (cell_size c0')).trans c0'; have k1 := (hSw.cell (p := ⟨g, o + k * 2 + 1, none⟩) (cell_size c1')).trans c1'; go_simp; try with_reducible rfl)
      try simp only [Act.put, List.setIfInBounds_toArray, List.set_cons_zero, List.set_cons_succ, List.getElem_toArray, List.getElem_cons_zero, List.getElem_cons_succ]
      refine HeadG.one (i := 8) rfl (by kernel_rfl) (by kernel_rfl) (fun K9 hK9 => ?_)
      go_simp
      go_at_call 22
      with_reducible refine (radd0_any f xc V0 hle).mono ?_
      rintro e wm ⟨rfl, hd⟩
      have hSm := hSd.drawn hd
      clear hd
      refine hK9.out _ _ hSm ?_
      clear hK9 K9
      try simp only [Act.put, List.setIfInBounds_toArray, List.set_cons_zero, List.set_cons_succ, List.getElem_toArray, List.getElem_cons_zero, List.getElem_cons_succ]
      refine HeadG.one (i := 14) rfl (by kernel_rfl) (by kernel_rfl) (fun K9 hK9 => ?_)
      go_simp
      go_at_call 23
      with_reducible refine (HORD.out _ hSm).mono ?_
      rintro e wn ⟨⟨un, rfl, hun⟩, hOn⟩
      obtain ⟨an, cn, rfl⟩ := hun.shape
      have hSn := hSm.trans hOn
      have HUN := Lib.hid hun
      clear hun hOn
      refine hK9.out _ _ hSn ?_
      clear hK9 K9
      try simp only [Act.put, List.setIfInBounds_toArray, List.set_cons_zero, List.set_cons_succ, List.getElem_toArray, List.getElem_cons_zero, List.getElem_cons_succ]
      refine HeadG.one (i := 15) rfl (by kernel_rfl) (by kernel_rfl) (fun K9 hK9 => ?_)
      go_simp
      refine hK9.out _ _ hSn ?_
      clear hK9 K9
      try simp only [Act.put, List.setIfInBounds_toArray, List.set_cons_zero, List.set_cons_succ, List.getElem_toArray, List.getElem_cons_zero, List.getElem_cons_succ]
      refine HeadG.one (i := 16) rfl (by kernel_rfl) (by kernel_rfl) (fun K9 hK9 => ?_)
      go_simp
      go_at_call 21
      with_reducible refine (HPUT.out an cn wn hSn HUN.out).mono ?_
      rintro e wp ⟨⟨oa2, q2, cap2, D2, rfl, h1, h2, h3, h4, h5, h6⟩, hOp⟩
      have hSp := hSn.trans hOp
      have HCF := Lib.hid (HST.out D2 h6)
      have HM2 := Lib.hid h4
      have HD2 := Lib.hid h5
      have HOP := Lib.hid (HO.out.trans hSp)
      clear h4 h5 h6 hOp
      refine hK9.out _ _ hSp ?_
      clear hK9 K9
      try simp only [Act.put, List.setIfInBounds_toArray, List.set_cons_zero, List.set_cons_succ, List.getElem_toArray, List.getElem_cons_zero, List.getElem_cons_succ]
      refine HeadG.last (i := 17) rfl (by kernel_rfl) (by kernel_rfl) (by kernel_rfl) (fun K9 hK9 => ?_)
      go_simp
      refine hK9.out _ _ ?_
      clear hK9 K9
      try simp only [Act.put, List.setIfInBounds_toArray, List.set_cons_zero, List.set_cons_succ, List.getElem_toArray, List.getElem_cons_zero, List.getElem_cons_succ]
      clear hSd hSm hSn hSp
      go_wp2
      go_roundw
      case rel => exact ⟨k + 1, by omega, by simp, _, _, _, D2, rfl, h1, h2, by omega, HM2, HD2, HCF, HOP⟩
      case measure => simp [intOf]; omega
    · obtain rfl : k = n := by omega
      have HCE : Hid (nz D = normS f s) := normS_only f HPP.out s (ord_nf HD.out) (fun u => by rw [coefN_nz, HCO.out u, ← HN.out, List.take_length])
      have HCD := Lib.hid HM.out.cells
      have HLD := Lib.hid HM.out.le
      have hqd := HM.out.len
      have HQD := Lib.hid hqd
      rw [← hqd] at HCD
      have HU9 := Lib.hid HM.out.1
      clear HCO hqd HD
      go_wp2_with fail
      go_loopw [7, 9] (fun vs vi wq => ∃ j : Nat, j ≤ q ∧ vi = .int .i64 (j : Int) ∧ Hid (∃ Z, wq.ownsRow wr.heap.size 34 2 vs (nz (D.take j)).length (mcells Z) ∧ FitR wr Z (nz (D.take j))) ∧ Hid (On wr wq)) (fun _ vi _ => q - (intOf vi).toNat)
      case atStart => exact ⟨0, Nat.zero_le _, rfl, Lib.hid ⟨[], World.ownsRow_nil _ _ _ _, rfl, fun i hi => by simp [nz] at hi⟩, Lib.hid (On.refl HO.out.tab)⟩
      case round =>
        rename World => wq
        obtain ⟨j, hj, rfl, HV, HQ⟩ := hrel
        by_cases hjt : j < q
        · obtain ⟨g, o, a', c', rfl, c0, c1, c2⟩ := HCD.out j hjt
          have hjt' : (j : Int) < (q : Int) := by omega
          have c0' := (HQ.out.cell (p := ⟨g, o + j * 2, none⟩) (cell_size c0)).trans c0
          have c1' := (HQ.out.cell (p := ⟨g, o + j * 2 + 1, none⟩) (cell_size c1)).trans c1
          have HNZ : Hid (nz (D.take (j + 1)) = nz (D.take j) ++ if (D.getD j zM).1 = 0 then [] else [D.getD j zM]) := by unfold Hid; rw [take_snoc_m D zM j (by rw [← HQD.out]; exact hjt), nz_snoc]
          obtain ⟨Z, hown, hF⟩ := HV.out
          have hnl : (nz (D.take j)).length ≤ 200000 := by
            have h1 := nz_len (D.take j)
            rw [List.length_take] at h1; omega
          obtain ⟨x, hx⟩ : ∃ x, x = D.getD j zM := ⟨_, rfl⟩
          rw [← hx] at c0' c1' c2 HNZ
          clear c0 c1 hx
          obtain ⟨xc, xv⟩ := x
          simp only at c0' c1' c2 HNZ
          by_cases hz : xc = 0
          · subst hz
            have HV2 : Hid (∃ Z, wq.ownsRow wr.heap.size 34 2 u7 (nz (D.take (j + 1))).length (mcells Z) ∧ FitR wr Z (nz (D.take (j + 1)))) := by
              unfold Hid; rw [HNZ.out, if_pos rfl, List.append_nil]; exact HV.out
            clear HNZ hown hF hnl HV c2
            go_wp2
            go_roundw
            case rel => exact ⟨j + 1, by omega, by simp, HV2, HQ⟩
            case measure => simp [intOf]; omega
          · have hz0 : ¬ (xc : Int) = 0 := by omega
            have e0 := beq_no hz0
            have oa1 := (On.refl HQ.out.tab).alloc (.cells #[.int .u64 ((xc : Nat) : Int), .slice a' xv.length c'] 34)
            obtain ⟨v2, w2, r2, n2, g2, -⟩ := append_mo (hown.alloc (.cells #[.int .u64 ((xc : Nat) : Int), .slice a' xv.length c'] 34)) (by have := oa1.size; have := HQ.out.size; omega) (zs_new1 wq xc a' xv.length c' _ rfl) (by omega)
            have HQ2 : Hid (On wr w2) := (HQ.out.trans oa1).gbv g2 (fun r hr => ownsRow_below hown r hr)
            have HV2 : Hid (∃ Z, w2.ownsRow wr.heap.size 34 2 v2 (nz (D.take (j + 1))).length (mcells Z) ∧ FitR wr Z (nz (D.take (j + 1)))) := by
              unfold Hid
              rw [HNZ.out, if_neg hz]
              refine ⟨Z ++ [(xc, .slice a' xv.length c')], by rw [mcells_append, List.length_append]; exact n2, hF.append ⟨rfl, fun i hi => ?_⟩⟩
              obtain rfl : i = 0 := by simp at hi; omega
              exact ⟨rfl, c2⟩
            have R2 := Lib.hid r2
            clear HNZ hown hF hnl HV c2 oa1 r2 n2 g2 hz hz0
            generalize xv.length = xl at *
            go_wp2_with (at_builtin; refine wp_appendJ rfl (.tmp 48) (.tmp 53) _ _ rfl _ _ v2 rfl rfl R2.out ?_)
            go_roundw
            case rel => exact ⟨j + 1, by omega, by simp, HV2, HQ2⟩
            case measure => simp [intOf]; omega
        · obtain rfl : j = q := by omega
          obtain ⟨Z, hown, hF⟩ := HV.out
          have HMM : Hid (MRd wq u7 (normS f s)) := by
            unfold Hid
            rw [HQD.out, List.take_length] at hown hF
            rw [← HCE.out]
            refine own_mrd hown (hF.on HQ.out) (fun m hm => HU9.out m (List.mem_filter.1 hm).1) ?_
            have h1 := nz_len D
            have h2 := HQD.out
            omega
          clear hown hF HV
          go_wp2
          go_ret2
          exact ⟨⟨_, rfl, HMM.out⟩, HO.out.trans HQ.out⟩
theorem rnormalF_any (f : Int) (s : List Mo) (v : Value) (w : World) (hT : Tab w) (hR : MRd w v s) (hs : s.length ≤ 100000) (hl : ∀ m ∈ s, m.2.length ≤ 200000) :
    Calls Tryz.prog 7 #[.int .i64 f, v] w fun e w' => (∃ u, e = .returned (.tuple #[u, .int .i64 (nfE f)]) ∧ MRd w' u (nfR f s)) ∧ On w w' := by
  unfold nfE nfR
  cases hv : validB f
  · exact (rnormal_no f v w hT hv).mono fun e w' ⟨h1, h2⟩ => ⟨⟨_, h1, MRd.nil _ _ _⟩, h2⟩
  · exact rnormal_yes f s v w hT hv hR hs hl
end Go.Proofs.YtnmdfldgpbfbbaaGreatDoor

/- Package mono: Same. -/
namespace Go.Proofs.YtnmdfldgpbfbbaaGreatDoor
open Go.Shelf Go.RowKit Go.Lib Go.Sort
set_option linter.unusedVariables false

theorem eqv_any (l m : List Vr) (va vb : Value) (w : World) (hA : VRd w va l) (hB : VRd w vb m) :
    Calls Tryz.prog 27 #[va, vb] w fun e w' => e = .returned (.bool (decide (l = m))) ∧ Drawn w w' := by
  obtain ⟨a, ac, rfl⟩ := hA.shape
  obtain ⟨b, bc, rfl⟩ := hB.shape
  have hLa := hA.2.1
  have hLb := hB.2.1
  have HA := Lib.hid hA.cells
  have HB := Lib.hid hB.cells
  by_cases hl : l.length = m.length
  rotate_left
  · have hd : decide (l = m) = false := decide_eq_false (fun e => hl (by rw [e]))
    have hb : (((l.length : Nat) : Int) != ((m.length : Nat) : Int)) = true := by simp; omega
    rw [hd]
    clear hd hl hA hB
    go_enter Tryz.func27, Tryz.ntmps27
    go_wp2
    go_ret
    exact ⟨rfl, Drawn.refl _⟩
  have hb : (((l.length : Nat) : Int) != ((m.length : Nat) : Int)) = false := by simp; omega
  have HL := Lib.hid hl
  clear hl hA hB
  go_enter Tryz.func27, Tryz.ntmps27
  go_wp2_with fail
  go_loopw [13] (fun vi wr => ∃ k q : Nat, k ≤ l.length ∧ vi = .int .i64 (k : Int) ∧ Hid (∀ j, j < k → l.getD j zV = m.getD j zV) ∧ Hid (wr = w.drewN q)) (fun vi _ => l.length - (intOf vi).toNat)
  case atStart => exact ⟨0, 0, Nat.zero_le _, rfl, fun j hj => by omega, Lib.hid rfl⟩
  case round =>
    rename World => wr
    obtain ⟨k, q, hk, rfl, HK, HO⟩ := hrel
    by_cases hlt : k < l.length
    · have hlt' : (k : Int) < (l.length : Int) := by omega
      have hlt2 : (k : Int) < (m.length : Int) := by have := HL.out; omega
      obtain ⟨b1, o1, rfl, c0, c1⟩ := HA.out k hlt
      obtain ⟨b2, o2, rfl, d0, d1⟩ := HB.out k (by rw [← HL.out]; exact hlt)
      have hcw : ∀ p, wr.cell? p = w.cell? p := fun p => by rw [HO.out]; rfl
      have x0 := (hcw _).trans c0
      have x1 := (hcw _).trans c1
      have y0 := (hcw _).trans d0
      have y1 := (hcw _).trans d1
      have HS : Hid (l.getD k zV = m.getD k zV → ∀ j, j < k + 1 → l.getD j zV = m.getD j zV) := fun e j hj => by
        by_cases h : j = k
        · rw [h]; exact e
        · exact HK.out j (by omega)
      have HNE : Hid (l.getD k zV ≠ m.getD k zV → decide (l = m) = false) := fun e => decide_eq_false (fun h => e (by rw [h]))
      clear c0 c1 d0 d1 HK hcw
      generalize l.getD k zV = X at *
      generalize m.getD k zV = Y at *
      have heq := eq_vr X Y
      by_cases hxy : X = Y
      · have HG := Lib.hid (HS.out hxy)
        have hd : decide (X = Y) = true := decide_eq_true hxy
        rw [hd] at heq
        clear hd hxy HS HNE
        go_wp2
        go_quiet (fail)
        go_wp2
        go_roundw
        case rel => exact ⟨k + 1, q + nq, by omega, by go_num, HG, by unfold Hid; rw [HO.out]; exact World.drewN_drewN _ _ _⟩
        case measure => simp [intOf]; omega
      · have HG := Lib.hid (HNE.out hxy)
        have hd : decide (X = Y) = false := decide_eq_false hxy
        rw [hd] at heq
        clear hd hxy HS HNE
        go_wp2
        go_quiet (fail)
        go_wp2
        go_ret
        exact ⟨by rw [HG.out]; rfl, q + nq, by rw [HO.out]; exact World.drewN_drewN _ _ _⟩
    · obtain rfl : k = l.length := by omega
      have HG : Hid (decide (l = m) = true) := decide_eq_true (ext_D zV HL.out HK.out)
      clear HK
      go_wp2
      go_ret
      exact ⟨by rw [HG.out]; rfl, q, HO.out⟩


theorem same1_any (p r : Nat) (l m : List Vr) (va vb : Value) (w : World) (hT : Tab w) (hA : VRd w va l) (hB : VRd w vb m) :
    Calls Tryz.prog 26 #[.agg #[.int .u64 ((p : Nat) : Int), va], .agg #[.int .u64 ((r : Nat) : Int), vb]] w fun e w' => e = .returned (.bool (decide (p = r ∧ l = m))) ∧ On w w' := by
  obtain ⟨a, ac, rfl⟩ := hA.shape
  obtain ⟨b, bc, rfl⟩ := hB.shape
  have H0 := Lib.hid (On.refl hT)
  have HA := Lib.hid hA
  have HB := Lib.hid hB
  clear hT hA hB
  by_cases hpr : p = r
  · subst hpr
    have hd : decide (p = p ∧ l = m) = decide (l = m) := by simp
    rw [hd]
    have HE := Lib.hid (fun (o o' : Obj) => eqv_any l m (.slice a l.length ac) (.slice b m.length bc) ((w.alloc o).alloc o') (HA.out.on ((H0.out.alloc o).alloc o')) (HB.out.on ((H0.out.alloc o).alloc o')))
    clear hd HA HB
    generalize l.length = x at *
    generalize m.length = y at *
    go_enter Tryz.func26, Tryz.ntmps26
    go_wp2_with (go_at_call 27; refine (HE.out _ _).mono ?_; rintro e w' ⟨rfl, hd⟩)
    go_ret
    obtain ⟨n, rfl⟩ := hd
    exact ⟨rfl, ((H0.out.alloc _).alloc _).drewN n⟩
  · have hd : decide (p = r ∧ l = m) = false := decide_eq_false (fun h => hpr h.1)
    rw [hd]
    have hpi : ¬ (p : Int) = (r : Int) := by omega
    have e1 := beq_no hpi
    clear hd hpr hpi HA HB
    generalize l.length = x at *
    generalize m.length = y at *
    go_enter Tryz.func26, Tryz.ntmps26
    go_wp2
    go_ret
    exact ⟨rfl, (H0.out.alloc _).alloc _⟩
set_option maxRecDepth 100000 in
set_option maxHeartbeats 2000000 in
theorem eqf_any (s t : List Mo) (va vb : Value) (w : World) (hT : Tab w) (hA : MRd w va s) (hB : MRd w vb t) :
    Calls Tryz.prog 25 #[va, vb, .func (.func 26) #[] #[]] w fun e w' => e = .returned (.bool (decide (s = t))) ∧ On w w' := by
  obtain ⟨a, ac, rfl⟩ := hA.shape
  obtain ⟨b, bc, rfl⟩ := hB.shape
  have hLa := hA.2.1
  have hLb := hB.2.1
  have HA := Lib.hid hA.cells
  have HB := Lib.hid hB.cells
  have H0 := Lib.hid (On.refl hT)
  by_cases hl : s.length = t.length
  rotate_left
  · have hd : decide (s = t) = false := decide_eq_false (fun e => hl (by rw [e]))
    have hb : (((s.length : Nat) : Int) != ((t.length : Nat) : Int)) = true := by simp; omega
    rw [hd]
    clear hd hl hA hB hT
    generalize s.length = x at *
    generalize t.length = y at *
    go_enter Tryz.func25, Tryz.ntmps25
    go_wp2
    go_ret
    exact ⟨rfl, H0.out⟩
  obtain ⟨n, hn⟩ : ∃ n, s.length = n := ⟨_, rfl⟩
  have hn2 : t.length = n := by omega
  have HN := Lib.hid hn
  have HN2 := Lib.hid hn2
  rw [hn] at HA hLa ⊢
  rw [hn2] at HB ⊢
  clear hl hA hB hT hn hn2 hLb
  go_enter Tryz.func25, Tryz.ntmps25
  go_wp2_with fail
  go_loopw [17] (fun vi wr => ∃ k : Nat, k ≤ n ∧ vi = .int .i64 (k : Int) ∧ Hid (∀ j, j < k → s.getD j zM = t.getD j zM) ∧ Hid (On w wr)) (fun vi _ => n - (intOf vi).toNat)
  case atStart => exact ⟨0, Nat.zero_le _, rfl, Lib.hid (fun j hj => absurd hj (Nat.not_lt_zero _)), H0⟩
  case round =>
    rename World => wr
    obtain ⟨k, hk, rfl, HK, HO⟩ := hrel
    by_cases hlt : k < n
    · have hlt' : (k : Int) < (n : Int) := by omega
      obtain ⟨b1, o1, a1, c1, rfl, x0, x1, x2⟩ := HA.out k hlt
      obtain ⟨b2, o2, a2, c2, rfl, y0, y1, y2⟩ := HB.out k hlt
      have HS : Hid (s.getD k zM = t.getD k zM → ∀ j, j < k + 1 → s.getD j zM = t.getD j zM) := fun e j hj => by
        by_cases h : j = k
        · rw [h]; exact e
        · exact HK.out j (by omega)
      have HNE : Hid (s.getD k zM ≠ t.getD k zM → decide (s = t) = false) := fun e => decide_eq_false (fun h => e (by rw [h]))
      have HX := Lib.hid x2
      have HY := Lib.hid y2
      obtain ⟨x, hx⟩ : ∃ x, x = s.getD k zM := ⟨_, rfl⟩
      obtain ⟨y, hy⟩ : ∃ y, y = t.getD k zM := ⟨_, rfl⟩
      rw [← hx] at x0 x1 HX HS HNE
      rw [← hy] at y0 y1 HY HS HNE
      clear HK x2 y2 hx hy
      obtain ⟨p, ls⟩ := x
      obtain ⟨r, lt⟩ := y
      simp only at x0 x1 HX y0 y1 HY
      obtain ⟨xl, hxl⟩ : ∃ xl, ls.length = xl := ⟨_, rfl⟩
      obtain ⟨yl, hyl⟩ : ∃ yl, lt.length = yl := ⟨_, rfl⟩
      rw [hxl] at x1 HX
      rw [hyl] at y1 HY
      clear hxl hyl
      obtain ⟨W2, hW2⟩ : ∃ W2, W2 = (wr.alloc (.cells #[.int .u64 ((p : Nat) : Int), .slice a1 xl c1] 34)).alloc (.cells #[.int .u64 ((r : Nat) : Int), .slice a2 yl c2] 34) := ⟨_, rfl⟩
      have hO2 : On wr W2 := by rw [hW2]; exact ((On.refl HO.out.tab).alloc _).alloc _
      have hO1 : On wr (wr.alloc (.cells #[.int .u64 ((p : Nat) : Int), .slice a1 xl c1] 34)) := (On.refl HO.out.tab).alloc _
      have x0' := (HO.out.cell (p := ⟨b1, o1 + k * 2, none⟩) (cell_size x0)).trans x0
      have x1' := (HO.out.cell (p := ⟨b1, o1 + k * 2 + 1, none⟩) (cell_size x1)).trans x1
      have y0' := ((HO.out.trans hO1).cell (p := ⟨b2, o2 + k * 2, none⟩) (cell_size y0)).trans y0
      have y1' := ((HO.out.trans hO1).cell (p := ⟨b2, o2 + k * 2 + 1, none⟩) (cell_size y1)).trans y1
      have HC := Lib.hid (same1_any p r ls lt _ _ W2 (HO.out.trans hO2).tab (HX.out.on (HO.out.trans hO2)) (HY.out.on (HO.out.trans hO2)))
      have HO2 := Lib.hid (HO.out.trans hO2)
      have HW2 := Lib.hid hW2
      clear x0 x1 y0 y1 hO1 hO2 hW2
      by_cases hxy : (p, ls) = (r, lt)
      · have HG := Lib.hid (HS.out hxy)
        have hd : decide (p = r ∧ ls = lt) = true := decide_eq_true (by simpa using hxy)
        rw [hd] at HC
        clear hd hxy HS HNE
        go_wp2_with (go_at_call 26; rw [← HW2.out]; refine HC.out.mono ?_; rintro e w3 ⟨rfl, hO3⟩)
        go_roundw
        case rel => exact ⟨k + 1, by omega, by simp, HG, Lib.hid (HO2.out.trans hO3)⟩
        case measure => simp [intOf]; omega
      · have HG := Lib.hid (HNE.out hxy)
        have hd : decide (p = r ∧ ls = lt) = false := decide_eq_false (by simpa using hxy)
        rw [hd] at HC
        clear hd hxy HS HNE
        go_wp2_with (go_at_call 26; rw [← HW2.out]; refine HC.out.mono ?_; rintro e w3 ⟨rfl, hO3⟩)
        go_ret
        exact ⟨by rw [HG.out]; rfl, HO2.out.trans hO3⟩
    · obtain rfl : k = n := by omega
      have HG : Hid (decide (s = t) = true) := decide_eq_true (ext_D zM (by rw [HN.out, HN2.out]) (fun j hj => HK.out j (by rw [← HN.out]; exact hj)))
      clear HK
      go_wp2
      go_ret
      exact ⟨by rw [HG.out]; rfl, HO.out⟩
theorem msame_any (s t : List Mo) (va vb : Value) (w : World) (hT : Tab w) (hA : MRd w va s) (hB : MRd w vb t) :
    Calls Tryz.prog 9 #[va, vb] w fun e w' => e = .returned (.bool (decide (s = t))) ∧ On w w' := by
  have HC := Lib.hid (eqf_any s t va vb w hT hA hB)
  clear hT hA hB
  go_enter Tryz.func9, Tryz.ntmps9
  go_wp2_with (go_at_call 25; refine HC.out.mono ?_; rintro e w' ⟨rfl, hO⟩)
  go_ret
  exact ⟨rfl, hO⟩
end Go.Proofs.YtnmdfldgpbfbbaaGreatDoor
