/- Package poly: Scale, Shift, Add, Sub: what each call returns. -/
import Derived.Test.YtdhacfagmfecgaaDoorPwalkB
namespace Go.Proofs.YtdhacfagmfecgaaDoor
open Go.RowKit
set_option linter.unusedVariables false

/-- The list with its first k places turned. -/
def Upto (l : List Nat) (g : Nat → Nat) (k : Nat) (o : List Nat) : Prop := o.length = l.length ∧ ∀ i, i < l.length → o.getD i 0 = if i < k then g i else l.getD i 0
theorem Upto.zero (l : List Nat) (g : Nat → Nat) : Upto l g 0 l := ⟨rfl, fun i _ => by rw [if_neg (by omega)]⟩
theorem Upto.at {l : List Nat} {g : Nat → Nat} {k : Nat} {o : List Nat} (h : Upto l g k o) (hk : k < l.length) : o.getD k 0 = l.getD k 0 := by rw [h.2 k hk, if_neg (by omega)]
theorem Upto.step {l : List Nat} {g : Nat → Nat} {k : Nat} {o : List Nat} (h : Upto l g k o) (hk : k < l.length) : Upto l g (k + 1) (o.set k (g k)) := by
  refine ⟨by rw [List.length_set]; exact h.1, fun i hi => ?_⟩
  rw [getD_set1 o k _ i (by rw [h.1]; exact hk)]
  by_cases e : i = k
  · subst e; rw [if_pos rfl, if_pos (by omega)]
  · rw [if_neg e, h.2 i hi]
    by_cases h2 : i < k
    · rw [if_pos h2, if_pos (by omega)]
    · rw [if_neg h2, if_neg (by omega)]
theorem Upto.done {l : List Nat} {g : Nat → Nat} {o : List Nat} (h : Upto l g l.length o) : o = (List.range l.length).map g :=
  list_ext (by rw [h.1]; simp) fun i hi => by
    rw [h.1] at hi
    rw [h.2 i hi, if_pos hi, getD_range, if_pos hi]
def scaleF (f : Int) (l : List Nat) (s : Nat) : List Nat := normF f (l.map fun x => mulF f x s)
def shiftF (f : Int) (l : List Nat) (s : Nat) : List Nat := normF f ((List.range l.length).map fun i => mulF f (l.getD i 0) (powF f s i))
theorem mulF_nulL (f : Int) (a : Nat) : mulF f 0 a = 0 := by unfold mulF; split <;> simp
theorem mulF_nulR (f : Int) (a : Nat) : mulF f a 0 = 0 := by unfold mulF; split <;> simp
theorem mulF_redL (f : Int) (a b : Nat) : mulF f (redF f a) b = mulF f a b := by
  rcases Nat.eq_zero_or_pos (pOf f) with h | h
  · rw [mulF_zero _ _ _ h, mulF_zero _ _ _ h]
  · rw [redF_pos _ _ h, mulF_modL]
theorem redF_mulF (f : Int) (a b : Nat) : redF f (mulF f a b) = mulF f a b := by
  rcases Nat.eq_zero_or_pos (pOf f) with h | h
  · rw [mulF_zero _ _ _ h, redF_zero _ _ h]
  · rw [redF_pos _ _ h, Nat.mod_eq_of_lt (mulF_lt _ _ _ h)]
theorem redF_redF (f : Int) (a : Nat) : redF f (redF f a) = redF f a := by
  rcases Nat.eq_zero_or_pos (pOf f) with h | h
  · rw [redF_zero _ _ h, redF_zero _ _ h]
  · rw [redF_pos _ _ h, redF_pos _ _ h, Nat.mod_mod]
theorem scale_strip (f : Int) (l : List Nat) (s : Nat) : strip ((List.range (normF f l).length).map fun i => mulF f ((normF f l).getD i 0) s) = scaleF f l s := by
  refine norm_ext (norm_strip _) (normF_norm _ _) fun i => ?_
  unfold scaleF
  rw [strip_getD, getD_range, normF_getD f (l.map _), getD_map0 _ _ (mulF_nulL f s), redF_mulF]
  by_cases h : i < (normF f l).length
  · rw [if_pos h, normF_getD, mulF_redL]
  · rw [if_neg h, ← mulF_redL, ← normF_getD, getD_over (by omega), mulF_nulL]
theorem shift_strip (f : Int) (l : List Nat) (s : Nat) : strip ((List.range (normF f l).length).map fun i => mulF f ((normF f l).getD i 0) (powF f s i)) = shiftF f l s := by
  refine norm_ext (norm_strip _) (normF_norm _ _) fun i => ?_
  unfold shiftF
  rw [strip_getD, getD_range, normF_getD f ((List.range l.length).map _), getD_range]
  by_cases h : i < (normF f l).length
  · have := normF_len f l
    rw [if_pos h, if_pos (by omega), normF_getD, mulF_redL, redF_mulF]
  · rw [if_neg h]
    by_cases h2 : i < l.length
    · rw [if_pos h2, redF_mulF, ← mulF_redL, ← normF_getD, getD_over (by omega), mulF_nulL]
    · rw [if_neg h2, redF_nul]
/-- The power that Shift carries along: 1 at first, whatever the field. -/
def powC (f : Int) (s k : Nat) : Nat := if k = 0 then 1 else powF f s k
theorem powC_succ (f : Int) (s k : Nat) : mulF f (powC f s k) s = powC f s (k + 1) := by
  unfold powC
  rw [if_neg (by omega : k + 1 ≠ 0)]
  rcases Nat.eq_zero_or_pos (pOf f) with h | h
  · rw [mulF_zero _ _ _ h, powF_zero _ _ _ h]
  · by_cases hk : k = 0
    · subst hk; rw [if_pos rfl, mulF_pos _ _ _ h, powF_pos _ _ _ h, Nat.one_mul, Nat.pow_one]
    · rw [if_neg hk, powF_pos _ _ _ h, mulF_modL, mulF_pos _ _ _ h, powF_pos _ _ _ h, Nat.pow_succ]
theorem powC_le (f : Int) (s k : Nat) : powC f s k ≤ 998244353 := by unfold powC; split; omega; exact powF_le _ _ _
theorem mul_powC (f : Int) (a s k : Nat) : mulF f a (powC f s k) = mulF f a (powF f s k) := by
  unfold powC
  by_cases hk : k = 0
  · subst hk; rw [if_pos rfl]
    rcases Nat.eq_zero_or_pos (pOf f) with h | h
    · rw [mulF_zero _ _ _ h, mulF_zero _ _ _ h]
    · rw [powF_pos _ _ _ h, mulF_modR, Nat.pow_zero]
  · rw [if_neg hk]

set_option maxHeartbeats 400000 in
theorem scale_any (f : Int) (l : List Nat) (s : Nat) (v : Value) (w : World) (hT : Tab w) (hR : Reads w v l) (hL : l.length ≤ 17592186044416) (hs : s ≤ 18446744073709551615) :
    Calls Tryd.prog 15 #[.int .i64 f, v, .int .u64 (s : Int)] w fun e w' => (∃ v', e = .returned v' ∧ Fre w.heap.size w' v' (scaleF f l s)) ∧ On w w' := by
  have hnl := normF_len f l
  have HR := Lib.hid hR; clear hR
  have HB := Lib.hid (normF_bd (f := f) (l := l))
  have HST := Lib.hid (scale_strip f l s)
  go_enter Tryd.func15, Tryd.ntmps15
  go_wp2_with (go_at_call 7; refine (normal_any f l _ _ hT HR.out hL).mono ?_; rintro e w1 ⟨⟨v1, rfl, hF⟩, hO⟩; rcases hF with ⟨hN, rfl⟩ | ⟨g, rfl, hg, hB⟩)
  · have HN := Lib.hid hN; have HO := Lib.hid hO; clear hN hO
    refine wp_loop_rounds 1 ?_
    rw [rounds_succ]
    go_wp2_with (go_at_call 33; refine (trim_fre w.heap.size _ [] _ (by simp) (Fre.nil _ _)).mono ?_; rintro e w' ⟨⟨v', rfl, hF⟩, rfl⟩)
    go_ret
    exact ⟨⟨_, rfl, hF.eq (by rw [← HST.out, HN.out]; rfl)⟩, HO.out⟩
  · generalize hm : normF f l = m at *
    have HM := Lib.hid hm
    clear hm
    go_wp2
    go_loopw [14] (fun vi wr => ∃ (k : Nat) (o : List Nat), k ≤ m.length ∧ vi = .int .i64 k ∧ Hid (Upto m (fun i => mulF f (m.getD i 0) s) k o) ∧ Blk g wr o ∧ On w wr) (fun vi _ => m.length - (intOf vi).toNat)
    case atStart => exact ⟨0, m, Nat.zero_le _, rfl, Upto.zero _ _, hB, hO⟩
    case round =>
      clear hB hO
      obtain ⟨k, o, hk, rfl, HU, hB, hOn⟩ := hrel
      by_cases hlt : k < m.length
      · have hcell := hB.cell k (by rw [HU.out.1]; exact hlt)
        rw [HU.out.at hlt] at hcell
        have hfr := hB.free k
        have hx2 := HB.out _ (getD_mem m k hlt)
        have HU2 : Hid (Upto m (fun i => mulF f (m.getD i 0) s) (k + 1) (o.set k (mulF f (m.getD k 0) s))) := HU.out.step hlt
        have HB2 := Lib.hid (hB.set k (mulF f (m.getD k 0) s) (by rw [HU.out.1]; exact hlt))
        have HO2 : Hid (On w (wr.setCell ⟨g, k, none⟩ (.int .u64 ((mulF f (m.getD k 0) s : Nat) : Int)))) := hOn.setCell hg _
        have hTr := hOn.tab
        have HT2 := Lib.hid HO2.out.tab
        skip
        clear hB hOn HU
        generalize m.getD k 0 = x at *
        go_wp2_with (go_at_call 42; refine (mul_any f x s _ hTr hx2 hs).mono ?_; rintro e w' ⟨rfl, rfl⟩)
        go_roundw
        case rel => exact ⟨k + 1, _, by omega, by go_num, HU2, HB2.out, HO2.out⟩
        case measure => simp [intOf]; omega
      · obtain rfl : k = m.length := by omega
        have hE := HU.out.done
        have hLo := HU.out.1
        have hO' := Lib.hid hOn
        have ht := trim_blk w.heap.size g o m.length wr (by rw [hLo]; exact Nat.le_refl _) (by omega) hB hg
        rw [hLo] at ht
        have HTR := Lib.hid ht
        have HE := Lib.hid hE
        clear HU hB hOn hE hLo ht
        go_wp2_with (go_at_call 33; refine HTR.out.mono ?_; rintro e w' ⟨⟨v', rfl, hF⟩, rfl⟩)
        go_ret
        exact ⟨⟨_, rfl, hF.eq (by rw [HE.out, ← HST.out])⟩, hO'.out⟩

set_option maxHeartbeats 400000 in
theorem shift_any (f : Int) (l : List Nat) (s : Nat) (v : Value) (w : World) (hT : Tab w) (hR : Reads w v l) (hL : l.length ≤ 17592186044416) (hs : s ≤ 18446744073709551615) :
    Calls Tryd.prog 19 #[.int .i64 f, v, .int .u64 (s : Int)] w fun e w' => (∃ v', e = .returned v' ∧ Fre w.heap.size w' v' (shiftF f l s)) ∧ On w w' := by
  have hnl := normF_len f l
  have HR := Lib.hid hR; clear hR
  have HB := Lib.hid (normF_bd (f := f) (l := l))
  have HST := Lib.hid (shift_strip f l s)
  go_enter Tryd.func19, Tryd.ntmps19
  go_wp2_with (go_at_call 7; refine (normal_any f l _ _ hT HR.out hL).mono ?_; rintro e w1 ⟨⟨v1, rfl, hF⟩, hO⟩; rcases hF with ⟨hN, rfl⟩ | ⟨g, rfl, hg, hB⟩)
  · have HN := Lib.hid hN; have HO := Lib.hid hO; clear hN hO
    refine wp_loop_rounds 1 ?_
    rw [rounds_succ]
    go_wp2_with (go_at_call 33; refine (trim_fre w.heap.size _ [] _ (by simp) (Fre.nil _ _)).mono ?_; rintro e w' ⟨⟨v', rfl, hF⟩, rfl⟩)
    go_ret
    exact ⟨⟨_, rfl, hF.eq (by rw [← HST.out, HN.out]; rfl)⟩, HO.out⟩
  · generalize hm : normF f l = m at *
    have HM := Lib.hid hm
    clear hm
    go_wp2
    go_loopw [8, 15] (fun vp vi wr => ∃ (k : Nat) (o : List Nat), k ≤ m.length ∧ vi = .int .i64 k ∧ vp = .int .u64 ((powC f s k : Nat) : Int) ∧ Hid (Upto m (fun i => mulF f (m.getD i 0) (powF f s i)) k o) ∧ Blk g wr o ∧ On w wr) (fun _ vi _ => m.length - (intOf vi).toNat)
    case atStart => exact ⟨0, m, Nat.zero_le _, rfl, rfl, Upto.zero _ _, hB, hO⟩
    case round =>
      clear hB hO
      obtain ⟨k, o, hk, rfl, rfl, HU, hB, hOn⟩ := hrel
      by_cases hlt : k < m.length
      · have hcell := hB.cell k (by rw [HU.out.1]; exact hlt)
        rw [HU.out.at hlt] at hcell
        have hfr := hB.free k
        have hx2 := HB.out _ (getD_mem m k hlt)
        have HU2 : Hid (Upto m (fun i => mulF f (m.getD i 0) (powF f s i)) (k + 1) (o.set k (mulF f (m.getD k 0) (powF f s k)))) := HU.out.step hlt
        have HB2 := Lib.hid (hB.set k (mulF f (m.getD k 0) (powF f s k)) (by rw [HU.out.1]; exact hlt))
        have HO2 : Hid (On w (wr.setCell ⟨g, k, none⟩ (.int .u64 ((mulF f (m.getD k 0) (powF f s k) : Nat) : Int)))) := hOn.setCell hg _
        have hTr := hOn.tab
        have HT2 := Lib.hid HO2.out.tab
        have hpc := powC_le f s k; have HPC := Lib.hid (mul_powC f (m.getD k 0) s k)
        clear hB hOn HU
        generalize m.getD k 0 = x at *
        go_wp2_with (first | (go_at_call_of 42 (Value.int .u64 (x : Int)); refine (mul_any f x (powC f s k) _ hTr hx2 (by omega)).mono ?_; rintro e w' ⟨rfl, rfl⟩; rw [HPC.out]) | (go_at_call 42; refine (mul_any f (powC f s k) s _ HT2.out (by omega) hs).mono ?_; rintro e w' ⟨rfl, rfl⟩))
        go_roundw
        case rel => exact ⟨k + 1, _, by omega, by go_num, by rw [powC_succ], HU2, HB2.out, HO2.out⟩
        case measure => simp [intOf]; omega
      · obtain rfl : k = m.length := by omega
        have hE := HU.out.done
        have hLo := HU.out.1
        have hO' := Lib.hid hOn
        have ht := trim_blk w.heap.size g o m.length wr (by rw [hLo]; exact Nat.le_refl _) (by omega) hB hg
        rw [hLo] at ht
        have HTR := Lib.hid ht
        have HE := Lib.hid hE
        clear HU hB hOn hE hLo ht
        go_wp2_with (go_at_call 33; refine HTR.out.mono ?_; rintro e w' ⟨⟨v', rfl, hF⟩, rfl⟩)
        go_ret
        exact ⟨⟨_, rfl, hF.eq (by rw [HE.out, ← HST.out])⟩, hO'.out⟩
end Go.Proofs.YtdhacfagmfecgaaDoor
