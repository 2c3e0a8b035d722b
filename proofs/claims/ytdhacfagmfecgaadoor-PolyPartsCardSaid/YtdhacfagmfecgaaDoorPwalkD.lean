/- Package poly: Add and Sub: what each call returns. -/
import Derived.Test.YtdhacfagmfecgaaDoorPwalkC
namespace Go.Proofs.YtdhacfagmfecgaaDoor
open Go.RowKit
set_option linter.unusedVariables false

def addL (f : Int) (l m : List Nat) : List Nat := normF f ((List.range (max l.length m.length)).map fun i => addF f (l.getD i 0) (m.getD i 0))
def subL (f : Int) (l m : List Nat) : List Nat := normF f ((List.range (max l.length m.length)).map fun i => subF f (l.getD i 0) (m.getD i 0))
theorem redF_addF (f : Int) (a b : Nat) : redF f (addF f a b) = addF f a b := by
  rcases Nat.eq_zero_or_pos (pOf f) with h | h
  · rw [addF_zero _ _ _ h, redF_zero _ _ h]
  · rw [redF_pos _ _ h, Nat.mod_eq_of_lt (addF_lt _ _ _ h)]
theorem redF_subF (f : Int) (a b : Nat) : redF f (subF f a b) = subF f a b := by
  rcases Nat.eq_zero_or_pos (pOf f) with h | h
  · rw [subF_zero _ _ _ h, redF_zero _ _ h]
  · rw [redF_pos _ _ h, Nat.mod_eq_of_lt (subF_lt _ _ _ h)]
theorem addF_nul (f : Int) (a b : Nat) (ha : redF f a = 0) (hb : redF f b = 0) : addF f a b = 0 := by
  rcases Nat.eq_zero_or_pos (pOf f) with h | h
  · exact addF_zero _ _ _ h
  · rw [redF_pos _ _ h] at ha hb
    rw [addF_pos _ _ _ h, Nat.add_mod, ha, hb]; exact Nat.zero_mod _
theorem subF_nul (f : Int) (a b : Nat) (ha : redF f a = 0) (hb : redF f b = 0) : subF f a b = 0 := by
  rcases Nat.eq_zero_or_pos (pOf f) with h | h
  · exact subF_zero _ _ _ h
  · rw [redF_pos _ _ h] at ha hb
    rw [subF_pos _ _ _ h, hb, Nat.add_mod, ha, Nat.zero_add, Nat.sub_zero, Nat.mod_mod, Nat.mod_self]

theorem addL_getD (f : Int) (l m : List Nat) (i : Nat) : (addL f l m).getD i 0 = addF f (l.getD i 0) (m.getD i 0) := by
  unfold addL
  rw [normF_getD, getD_range]
  by_cases h : i < max l.length m.length
  · rw [if_pos h, redF_addF]
  · rw [if_neg h, redF_nul, getD_over (l := l) (by omega), getD_over (l := m) (by omega), addF_nul f 0 0 (redF_nul f) (redF_nul f)]
theorem addL_norm (f : Int) (l m : List Nat) : Norm (addL f l m) := normF_norm _ _
theorem addL_strip (f : Int) (l m : List Nat) (n : Nat) (hn : n = max (normF f l).length (normF f m).length) : strip ((List.range n).map fun i => addF f (l.getD i 0) (m.getD i 0)) = addL f l m := by
  refine norm_ext (norm_strip _) (addL_norm _ _ _) fun i => ?_
  rw [strip_getD, getD_range, addL_getD]
  by_cases h : i < n
  · rw [if_pos h]
  · rw [if_neg h, addF_nul]
    · rw [← normF_getD, getD_over (by omega)]
    · rw [← normF_getD, getD_over (by omega)]
set_option maxHeartbeats 800000 in
theorem combine_add (f : Int) (l m : List Nat) (v v' : Value) (w : World) (hT : Tab w) (hR : Reads w v l) (hR' : Reads w v' m) (hL : l.length ≤ 17592186044416) (hL' : m.length ≤ 17592186044416) :
    Calls Tryd.prog 36 #[.int .i64 f, v, v', .func (Fn.func 37) #[] #[]] w fun e w' => (∃ u, e = .returned u ∧ Fre w.heap.size w' u (addL f l m)) ∧ On w w' := by
  have hnl := normF_len f l
  have hnm := normF_len f m
  obtain ⟨n, hn⟩ : ∃ n, n = max (normF f l).length (normF f m).length := ⟨_, rfl⟩
  have HST := Lib.hid (addL_strip f l m n hn)
  obtain ⟨na, hna⟩ : ∃ na, na = (normF f l).length := ⟨_, rfl⟩
  obtain ⟨nb, hnb⟩ : ∃ nb, nb = (normF f m).length := ⟨_, rfl⟩
  have hcs : (n = nb ∧ na < nb) ∨ (n = na ∧ ¬ na < nb) := by omega
  have HNA := Lib.hid hna
  have HNB := Lib.hid hnb
  clear hna hnb
  have hn44 : n ≤ 17592186044416 := by omega
  obtain ⟨a, cap, rfl⟩ := hR.shape
  obtain ⟨a', cap', rfl⟩ := hR'.shape
  have hmk := make_run n (by omega) w
  have hM := blk_made w n
  have hO0 : On w (w.alloc (.cells (madeCells #[.int .u64 0] n) 23)) := (On.refl hT).alloc _
  obtain ⟨w1, hcopy, hB1, hA1⟩ := copy_run _ w.heap.size n n _ l hM (hR.on hO0)
  have hO1 := hO0.ap (Nat.le_refl _) hA1
  have HU := Lib.hid hR.1
  have HR := Lib.hid hR
  have HR' := Lib.hid hR'
  have HN := Lib.hid hn
  have HC := Lib.hid hB1
  have HO := Lib.hid hO1
  clear hR hR' hn hM hB1 hA1 hO0 hO1
  generalize hpl : pad l n = P at *
  have HP : Hid (P.length = n ∧ ∀ i, i < n → P.getD i 0 = l.getD i 0) := by
    unfold Hid; rw [← hpl]; exact ⟨pad_len _ _, fun i hi => by rw [pad_getD, if_pos hi]⟩
  clear hpl
  go_enter Tryd.func36, Tryd.ntmps36
  go_wp2_with fail
  refine (length_any f l _ _ hT HR.out).mono ?_
  rintro e w' ⟨rfl, rfl⟩
  rw [← HNA.out]
  go_wp2_with fail
  refine (length_any f m _ _ hT HR'.out).mono ?_
  rintro e w' ⟨rfl, rfl⟩
  rw [← HNB.out]
  rcases hcs with ⟨rfl, hcs⟩ | ⟨rfl, hcs⟩
  all_goals
    go_wp2
    clear hmk hcopy hcs
    go_loopw [25] (fun vi wr => ∃ (k : Nat) (o : List Nat), k ≤ n ∧ vi = .int .i64 k ∧ Hid (Upto P (fun i => addF f (l.getD i 0) (m.getD i 0)) k o) ∧ Blk w.heap.size wr o ∧ On w wr) (fun vi _ => n - (intOf vi).toNat)
    case atStart => exact ⟨0, _, Nat.zero_le _, rfl, Upto.zero _ _, HC.out, HO.out⟩
    case round =>
      obtain ⟨k, o, hk, rfl, HT, hB, hOn⟩ := hrel
      by_cases hlt : k < n
      · have hkP : k < P.length := by rw [HP.out.1]; exact hlt
        have hcell := hB.cell k (by rw [HT.out.1]; exact hkP)
        rw [HT.out.at hkP, HP.out.2 k hlt] at hcell
        have hfr := hB.free k
        have hx2 : l.getD k 0 ≤ 18446744073709551615 := by
          rcases Nat.lt_or_ge k l.length with h | h
          · exact HU.out _ (getD_mem l k h)
          · rw [getD_over h]; omega
        have HT2 : Hid (Upto P (fun i => addF f (l.getD i 0) (m.getD i 0)) (k + 1) (o.set k (addF f (l.getD k 0) (m.getD k 0)))) := HT.out.step hkP
        have HB2 := Lib.hid (hB.set k (addF f (l.getD k 0) (m.getD k 0)) (by rw [HT.out.1]; exact hkP))
        have HO2 : Hid (On w (wr.setCell ⟨w.heap.size, k, none⟩ (.int .u64 ((addF f (l.getD k 0) (m.getD k 0) : Nat) : Int)))) := hOn.setCell (Nat.le_refl _) _
        have hTr := hOn.tab
        have hRr := HR'.out.on hOn
        clear hB hOn HT hkP
        by_cases hlm : k < m.length
        · obtain ⟨hU', hL', ⟨rfl, _⟩ | ⟨b, off, cap2, he, hc⟩⟩ := hRr
          · simp at hlm
          · simp only [Value.slice.injEq] at he
            obtain ⟨rfl, -, -⟩ := he
            have hcell2 := hc k hlm
            have hy2 := hU' _ (getD_mem m k hlm)
            clear hc hU'
            generalize l.getD k 0 = x at *
            generalize m.getD k 0 = y at *
            go_wp2_with (go_at_call 37; refine (add_any f x y _ hTr hx2 hy2).mono ?_; rintro e w' ⟨rfl, rfl⟩)
            go_roundw
            case rel => exact ⟨k + 1, _, by omega, by go_num, HT2, HB2.out, HO2.out⟩
            case measure => simp [intOf]; omega
        · have hy0 : m.getD k 0 = 0 := getD_over (by omega)
          rw [hy0] at HT2 HB2 HO2
          clear hRr hy0
          generalize l.getD k 0 = x at *
          go_wp2_with (go_at_call 37; refine (add_any f x 0 _ hTr hx2 (by omega)).mono ?_; rintro e w' ⟨rfl, rfl⟩)
          go_roundw
          case rel => exact ⟨k + 1, _, by omega, by go_num, HT2, HB2.out, HO2.out⟩
          case measure => simp [intOf]; omega
      · obtain rfl : k = n := by omega
        have hTu : Upto P (fun i => addF f (l.getD i 0) (m.getD i 0)) P.length o := by rw [HP.out.1]; exact HT.out
        have hE := hTu.done
        have hLo := hTu.1
        rw [HP.out.1] at hE hLo
        have hO' := Lib.hid hOn
        have ht := trim_blk w.heap.size w.heap.size o k wr (by omega) (by omega) hB (Nat.le_refl _)
        rw [hLo] at ht
        have HTR := Lib.hid ht
        have HE := Lib.hid hE
        clear HT hB hOn hE hLo ht hTu
        go_wp2_with (go_at_call 33; refine HTR.out.mono ?_; rintro e w' ⟨⟨u, rfl, hF⟩, rfl⟩)
        go_ret
        exact ⟨⟨_, rfl, hF.eq (by rw [HE.out, HST.out])⟩, hO'.out⟩
theorem padd_any (f : Int) (l m : List Nat) (v v' : Value) (w : World) (hT : Tab w) (hR : Reads w v l) (hR' : Reads w v' m) (hL : l.length ≤ 17592186044416) (hL' : m.length ≤ 17592186044416) :
    Calls Tryd.prog 11 #[.int .i64 f, v, v'] w fun e w' => (∃ u, e = .returned u ∧ Fre w.heap.size w' u (addL f l m)) ∧ On w w' := by
  have HC := Lib.hid (combine_add f l m v v' w hT hR hR' hL hL')
  clear hR hR'
  go_enter Tryd.func11, Tryd.ntmps11
  go_wp2_with (go_at_call 36; refine HC.out.mono ?_; rintro e w' ⟨⟨u, rfl, hF⟩, hO⟩)
  go_ret
  exact ⟨⟨_, rfl, hF⟩, hO⟩

theorem subL_getD (f : Int) (l m : List Nat) (i : Nat) : (subL f l m).getD i 0 = subF f (l.getD i 0) (m.getD i 0) := by
  unfold subL
  rw [normF_getD, getD_range]
  by_cases h : i < max l.length m.length
  · rw [if_pos h, redF_subF]
  · rw [if_neg h, redF_nul, getD_over (l := l) (by omega), getD_over (l := m) (by omega), subF_nul f 0 0 (redF_nul f) (redF_nul f)]
theorem subL_norm (f : Int) (l m : List Nat) : Norm (subL f l m) := normF_norm _ _
theorem subL_strip (f : Int) (l m : List Nat) (n : Nat) (hn : n = max (normF f l).length (normF f m).length) : strip ((List.range n).map fun i => subF f (l.getD i 0) (m.getD i 0)) = subL f l m := by
  refine norm_ext (norm_strip _) (subL_norm _ _ _) fun i => ?_
  rw [strip_getD, getD_range, subL_getD]
  by_cases h : i < n
  · rw [if_pos h]
  · rw [if_neg h, subF_nul]
    · rw [← normF_getD, getD_over (by omega)]
    · rw [← normF_getD, getD_over (by omega)]
set_option maxHeartbeats 800000 in
theorem combine_sub (f : Int) (l m : List Nat) (v v' : Value) (w : World) (hT : Tab w) (hR : Reads w v l) (hR' : Reads w v' m) (hL : l.length ≤ 17592186044416) (hL' : m.length ≤ 17592186044416) :
    Calls Tryd.prog 36 #[.int .i64 f, v, v', .func (Fn.func 40) #[] #[]] w fun e w' => (∃ u, e = .returned u ∧ Fre w.heap.size w' u (subL f l m)) ∧ On w w' := by
  have hnl := normF_len f l
  have hnm := normF_len f m
  obtain ⟨n, hn⟩ : ∃ n, n = max (normF f l).length (normF f m).length := ⟨_, rfl⟩
  have HST := Lib.hid (subL_strip f l m n hn)
  obtain ⟨na, hna⟩ : ∃ na, na = (normF f l).length := ⟨_, rfl⟩
  obtain ⟨nb, hnb⟩ : ∃ nb, nb = (normF f m).length := ⟨_, rfl⟩
  have hcs : (n = nb ∧ na < nb) ∨ (n = na ∧ ¬ na < nb) := by omega
  have HNA := Lib.hid hna
  have HNB := Lib.hid hnb
  clear hna hnb
  have hn44 : n ≤ 17592186044416 := by omega
  obtain ⟨a, cap, rfl⟩ := hR.shape
  obtain ⟨a', cap', rfl⟩ := hR'.shape
  have hmk := make_run n (by omega) w
  have hM := blk_made w n
  have hO0 : On w (w.alloc (.cells (madeCells #[.int .u64 0] n) 23)) := (On.refl hT).alloc _
  obtain ⟨w1, hcopy, hB1, hA1⟩ := copy_run _ w.heap.size n n _ l hM (hR.on hO0)
  have hO1 := hO0.ap (Nat.le_refl _) hA1
  have HU := Lib.hid hR.1
  have HR := Lib.hid hR
  have HR' := Lib.hid hR'
  have HN := Lib.hid hn
  have HC := Lib.hid hB1
  have HO := Lib.hid hO1
  clear hR hR' hn hM hB1 hA1 hO0 hO1
  generalize hpl : pad l n = P at *
  have HP : Hid (P.length = n ∧ ∀ i, i < n → P.getD i 0 = l.getD i 0) := by
    unfold Hid; rw [← hpl]; exact ⟨pad_len _ _, fun i hi => by rw [pad_getD, if_pos hi]⟩
  clear hpl
  go_enter Tryd.func36, Tryd.ntmps36
  go_wp2_with fail
  refine (length_any f l _ _ hT HR.out).mono ?_
  rintro e w' ⟨rfl, rfl⟩
  rw [← HNA.out]
  go_wp2_with fail
  refine (length_any f m _ _ hT HR'.out).mono ?_
  rintro e w' ⟨rfl, rfl⟩
  rw [← HNB.out]
  rcases hcs with ⟨rfl, hcs⟩ | ⟨rfl, hcs⟩
  all_goals
    go_wp2
    clear hmk hcopy hcs
    go_loopw [25] (fun vi wr => ∃ (k : Nat) (o : List Nat), k ≤ n ∧ vi = .int .i64 k ∧ Hid (Upto P (fun i => subF f (l.getD i 0) (m.getD i 0)) k o) ∧ Blk w.heap.size wr o ∧ On w wr) (fun vi _ => n - (intOf vi).toNat)
    case atStart => exact ⟨0, _, Nat.zero_le _, rfl, Upto.zero _ _, HC.out, HO.out⟩
    case round =>
      obtain ⟨k, o, hk, rfl, HT, hB, hOn⟩ := hrel
      by_cases hlt : k < n
      · have hkP : k < P.length := by rw [HP.out.1]; exact hlt
        have hcell := hB.cell k (by rw [HT.out.1]; exact hkP)
        rw [HT.out.at hkP, HP.out.2 k hlt] at hcell
        have hfr := hB.free k
        have hx2 : l.getD k 0 ≤ 18446744073709551615 := by
          rcases Nat.lt_or_ge k l.length with h | h
          · exact HU.out _ (getD_mem l k h)
          · rw [getD_over h]; omega
        have HT2 : Hid (Upto P (fun i => subF f (l.getD i 0) (m.getD i 0)) (k + 1) (o.set k (subF f (l.getD k 0) (m.getD k 0)))) := HT.out.step hkP
        have HB2 := Lib.hid (hB.set k (subF f (l.getD k 0) (m.getD k 0)) (by rw [HT.out.1]; exact hkP))
        have HO2 : Hid (On w (wr.setCell ⟨w.heap.size, k, none⟩ (.int .u64 ((subF f (l.getD k 0) (m.getD k 0) : Nat) : Int)))) := hOn.setCell (Nat.le_refl _) _
        have hTr := hOn.tab
        have hRr := HR'.out.on hOn
        clear hB hOn HT hkP
        by_cases hlm : k < m.length
        · obtain ⟨hU', hL', ⟨rfl, _⟩ | ⟨b, off, cap2, he, hc⟩⟩ := hRr
          · simp at hlm
          · simp only [Value.slice.injEq] at he
            obtain ⟨rfl, -, -⟩ := he
            have hcell2 := hc k hlm
            have hy2 := hU' _ (getD_mem m k hlm)
            clear hc hU'
            generalize l.getD k 0 = x at *
            generalize m.getD k 0 = y at *
            go_wp2_with (go_at_call 40; refine (sub_any f x y _ hTr hx2 hy2).mono ?_; rintro e w' ⟨rfl, rfl⟩)
            go_roundw
            case rel => exact ⟨k + 1, _, by omega, by go_num, HT2, HB2.out, HO2.out⟩
            case measure => simp [intOf]; omega
        · have hy0 : m.getD k 0 = 0 := getD_over (by omega)
          rw [hy0] at HT2 HB2 HO2
          clear hRr hy0
          generalize l.getD k 0 = x at *
          go_wp2_with (go_at_call 40; refine (sub_any f x 0 _ hTr hx2 (by omega)).mono ?_; rintro e w' ⟨rfl, rfl⟩)
          go_roundw
          case rel => exact ⟨k + 1, _, by omega, by go_num, HT2, HB2.out, HO2.out⟩
          case measure => simp [intOf]; omega
      · obtain rfl : k = n := by omega
        have hTu : Upto P (fun i => subF f (l.getD i 0) (m.getD i 0)) P.length o := by rw [HP.out.1]; exact HT.out
        have hE := hTu.done
        have hLo := hTu.1
        rw [HP.out.1] at hE hLo
        have hO' := Lib.hid hOn
        have ht := trim_blk w.heap.size w.heap.size o k wr (by omega) (by omega) hB (Nat.le_refl _)
        rw [hLo] at ht
        have HTR := Lib.hid ht
        have HE := Lib.hid hE
        clear HT hB hOn hE hLo ht hTu
        go_wp2_with (go_at_call 33; refine HTR.out.mono ?_; rintro e w' ⟨⟨u, rfl, hF⟩, rfl⟩)
        go_ret
        exact ⟨⟨_, rfl, hF.eq (by rw [HE.out, HST.out])⟩, hO'.out⟩
theorem psub_any (f : Int) (l m : List Nat) (v v' : Value) (w : World) (hT : Tab w) (hR : Reads w v l) (hR' : Reads w v' m) (hL : l.length ≤ 17592186044416) (hL' : m.length ≤ 17592186044416) :
    Calls Tryd.prog 13 #[.int .i64 f, v, v'] w fun e w' => (∃ u, e = .returned u ∧ Fre w.heap.size w' u (subL f l m)) ∧ On w w' := by
  have HC := Lib.hid (combine_sub f l m v v' w hT hR hR' hL hL')
  clear hR hR'
  go_enter Tryd.func13, Tryd.ntmps13
  go_wp2_with (go_at_call 36; refine HC.out.mono ?_; rintro e w' ⟨⟨u, rfl, hF⟩, hO⟩)
  go_ret
  exact ⟨⟨_, rfl, hF⟩, hO⟩
end Go.Proofs.YtdhacfagmfecgaaDoor
