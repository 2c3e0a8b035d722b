/- The document's own numbers: trim, limb, order, even, SameNat, bounded: what each call returns. -/
import Derived.Test.YtdgmlmcllkgemaaKz09
import Derived.Test.YtdgmlmcllkgemaaKz06
import Derived.Laws.AppendOwn
import Derived.Laws.OwnMore
set_option linter.unusedSimpArgs false
set_option linter.unusedVariables false
/- The document's own numbers: trim, limb, order, even, SameNat, bounded: what each call returns. -/
namespace Go.Proofs.Ytdgmlmcllkgemaa
open Go.RowKit
set_option linter.unusedVariables false

/-- A slice without memory has no room. -/
def Zc (v : Value) : Prop := ∀ m c, v = .slice none m c → c = 0
theorem Zc.some (a : Addr) (m c : Nat) : Zc (.slice (some a) m c) := fun m' c' h => by simp at h
theorem Zc.nil : Zc (.slice none 0 0) := fun m c h => by simp at h; omega
/-- The slice v reads as the number n. -/
def Nu (w : World) (v : Value) (n : Nat) : Prop := Nv w v n ∧ Zc v
theorem Nu.on {w w' : World} {v : Value} {n : Nat} (h : Nu w v n) (k : On w w') : Nu w' v n := ⟨h.1.on k, h.2⟩
theorem Nu.nil (w : World) : Nu w (.slice none 0 0) 0 := ⟨Nv.nil w, Zc.nil⟩
/-- What v shows lies in memory from B on. -/
def At (B : Nat) (v : Value) : Prop := ∀ b o n c, v = .slice (some ⟨b, o, none⟩) n c → B ≤ b
theorem At.nil (B : Nat) : At B (.slice none 0 0) := fun b o n c h => by simp at h
theorem At.mono {B C : Nat} {v : Value} (h : At B v) (k : C ≤ B) : At C v := fun b o n c e => Nat.le_trans k (h b o n c e)
theorem At.some {B g : Nat} {n c : Nat} (h : B ≤ g) : At B (.slice (some ⟨g, 0, none⟩) n c) := fun b o n c e => by
  simp only [Value.slice.injEq, Option.some.injEq, Addr.mk.injEq] at e
  obtain ⟨⟨rfl, -⟩, -⟩ := e
  exact h
def Nf (B : Nat) (w : World) (v : Value) (n : Nat) : Prop := Nu w v n ∧ At B v
theorem Nf.on {B : Nat} {w w' : World} {v : Value} {n : Nat} (h : Nf B w v n) (k : On w w') : Nf B w' v n := ⟨h.1.on k, h.2⟩
theorem Nf.mono {B C : Nat} {w : World} {v : Value} {n : Nat} (h : Nf B w v n) (k : C ≤ B) : Nf C w v n := ⟨h.1, h.2.mono k⟩
theorem Nf.set {B C : Nat} {w : World} {v : Value} {n : Nat} (h : Nf B w v n) (hC : C < B) (k : Nat) (u : Value) : Nf B (w.setCell ⟨C, k, none⟩ u) v n := by
  obtain ⟨⟨⟨oa, cap, e, h1, h2, h3⟩, h4⟩, h5⟩ := h
  refine ⟨⟨⟨oa, cap, e, h1, h2, fun j hj => ?_⟩, h4⟩, h5⟩
  obtain ⟨b, off, e2, hc⟩ := h3 j hj
  refine ⟨b, off, e2, ?_⟩
  subst e2
  have := h5 b off _ _ e
  rw [World.cell?_setCell_other _ _ _ _ (by intro e3; have := congrArg Addr.block e3; simp at this; omega)]
  exact hc
theorem append_limbsz (w : World) (t u : TypeId) (ht : Try.prog.underlying t = some (.slice 54)) (hu : Try.prog.underlying u = some (.slice 54)) (oa : Option Addr) (k c : Nat) (X : Int) (hR : Rd w oa k X) (hk : k ≤ 1000000) :
    ∃ v' w', (∀ ty, (Builtin.append_ #[t, u] ty #[.slice none 0 0, .slice oa k c]).run Try.prog w = .ok v' w') ∧ Lv w' v' k X ∧ On w w' ∧ Zc v' ∧ At w.heap.size v' := by
  obtain ⟨i0, hi, hz0, hz1, hz2⟩ := info_parts info_u32
  rcases Nat.eq_zero_or_pos k with h0 | h0
  · subst h0
    exact ⟨_, _, fun ty => run_append_none2 w t u ty _ i0 ht hu hi oa c, ⟨none, 0, rfl, Nat.le_refl _, by omega, fun j hj => by omega⟩, On.refl _, Zc.nil, At.nil _⟩
  · obtain ⟨b, off, rfl, _⟩ := hR 0 h0
    have hR' : ∀ j, j < k → w.cell? ⟨b, off + j, none⟩ = some (.int .u32 ((dg X j : Nat) : Int)) := fun j hj => by
      obtain ⟨b', off', h1, h2⟩ := hR j hj
      simp only [Option.some.injEq, Addr.mk.injEq] at h1
      obtain ⟨rfl, rfl, -⟩ := h1
      exact h2
    have hrun := fun ty => run_append_nil2 (P := Try.prog) w t u ty 54 i0 (.int .u32 0) ht hu hi hz0 ⟨b, off, none⟩ k c (limbVals X k) (by rw [limbVals_len, hz1, Nat.mul_one])
      (fun j v hj => by
        have hj' : j < k := by have := (List.getElem?_eq_some_iff.1 hj).1; rwa [limbVals_len] at this
        rw [limbVals_get _ _ _ hj'] at hj
        rw [← hj, show (⟨b, off, none⟩ : Addr).add j = ⟨b, off + j, none⟩ by unfold Addr.add; split <;> simp_all]
        exact hR' j hj') h0 (by omega) (by rw [hz2]; omega)
    have hge := grownCap_ge w k 0 54
    have hle := grownCap_le_maxLen w k 0 54 (by unfold maxLen; omega)
    refine ⟨_, _, hrun, ⟨_, _, rfl, hge, by unfold maxLen at hle; omega, fun j hj => ⟨_, _, rfl, ?_⟩⟩, (On.refl w).drew.alloc _, Zc.some _ _ _, At.some (Nat.le_refl _)⟩
    rw [Nat.zero_add]
    have hs : w.drew.heap.size = w.heap.size := rfl
    rw [← hs, World.cell?_alloc_new, Array.getElem?_append_left (by simp [limbVals_len]; exact hj)]
    have := limbVals_get X k j hj
    simpa using this
set_option maxHeartbeats 1000000 in
theorem rtrim_any (v : Value) (m x : Nat) (w : World) (h : Lv w v m (x : Int)) (hz : Zc v) (hx : x < 4294967296 ^ m) (hm : m ≤ 1000000) :
    Calls Try.prog 58 #[v] w fun e w' => (∃ v', e = .returned v' ∧ Nf w.heap.size w' v' x) ∧ On w w' := by
  obtain ⟨oa, cap, rfl, hmc, hcap, hR⟩ := h
  have hnil : oa = none → cap = 0 := fun e => hz m cap (by rw [e])
  have HR := Lib.hid hR; clear hR hz
  go_enter Try.func58, Try.ntmps58
  go_hidden (go_wp2)
  go_loop [3] (fun vi => ∃ k : Nat, vi = .int .i64 (k : Int) ∧ k ≤ m ∧ Hid (x < 4294967296 ^ k)) (fun vi => (intOf vi).toNat)
  case atStart => exact ⟨m, rfl, Nat.le_refl _, hx⟩
  case round =>
    obtain ⟨k, rfl, hk, HXK⟩ := hrel
    have FIN : Hid (nl x = k → ∃ v' w', (∀ ty, (Builtin.append_ #[23, 22] ty #[.slice none 0 0, .slice oa k cap]).run Try.prog w = .ok v' w') ∧ Nf w.heap.size w' v' x ∧ On w w') := fun hd => by
      obtain ⟨v', w', h1, h2, h3, h4, h5⟩ := append_limbsz w 23 22 Try.underlying23 Try.underlying22 oa k cap (x : Int) (HR.out.shorter (by omega)) (by omega)
      exact ⟨v', w', h1, ⟨⟨by unfold Nv; rw [hd]; exact h2, h4⟩, h5⟩, h3⟩
    cases k with
    | zero =>
      have hx0 : x = 0 := by have := HXK.out; simpa using this
      obtain ⟨v', w1, hrun, hv, hO⟩ := FIN.out (by rw [hx0, nl_zero])
      have HRUN := Lib.hid hrun; have HV := Lib.hid hv; have HO := Lib.hid hO
      clear hrun hv hO hx0
      rcases oa with _ | ad
      · have hc0 := hnil rfl
        subst hc0
        go_wp2_with (at_builtin; refine wp_append2 rfl (.tmp 19) (.tmp 22) _ _ rfl _ _ v' rfl rfl HRUN.out ?_)
        go_wp2
        go_ret
        exact ⟨⟨_, rfl, HV.out⟩, HO.out⟩
      · go_wp2_with (at_builtin; refine wp_append2 rfl (.tmp 19) (.tmp 22) _ _ rfl _ _ v' rfl rfl HRUN.out ?_)
        go_wp2
        go_ret
        exact ⟨⟨_, rfl, HV.out⟩, HO.out⟩
    | succ k =>
      obtain ⟨b, off, rfl, hc⟩ := HR.out k (by omega)
      have hki : ((k + 1 : Nat) : Int) - 1 = (k : Int) := by omega
      have hkp : decide (0 < ((k + 1 : Nat) : Int)) = true := by simp; try omega
      by_cases hd : dg (x : Int) k = 0
      · rw [hd] at hc
        have HX2 : Hid (x < 4294967296 ^ k) := trim_step HXK.out hd
        clear FIN hd
        go_wp2
        go_round
        case rel => exact ⟨k, by go_num, by omega, HX2.out⟩
        case measure => simp [intOf]
      · obtain ⟨v', w1, hrun, hv, hO⟩ := FIN.out (trim_stop HXK.out hd)
        have HRUN := Lib.hid hrun; have HV := Lib.hid hv; have HO := Lib.hid hO
        clear hrun hv hO
        have hd0 : (((dg (x : Int) k : Nat) : Int) == 0) = false := by simp; omega
        clear FIN hd
        generalize dg (x : Int) k = d at *
        go_wp2_with (at_builtin; refine wp_append2 rfl (.tmp 19) (.tmp 22) _ _ rfl _ _ v' rfl rfl HRUN.out ?_)
        go_wp2
        go_ret
        exact ⟨⟨_, rfl, HV.out⟩, HO.out⟩
theorem rlimb_any (v : Value) (x i : Nat) (w : World) (h : Nv w v x) (hi : i ≤ 1000001) :
    Calls Try.prog 87 #[v, .int .i64 (i : Int)] w fun e w' => e = .returned (.int .u64 ((dg (x : Int) i : Nat) : Int)) ∧ w = w' := by
  obtain ⟨oa, cap, rfl, hmc, hcap, hR⟩ := h
  by_cases hlt : i < nl x
  · obtain ⟨b, off, rfl, hc⟩ := hR i hlt
    have hb := dg_lt (x : Int) i
    clear hR
    generalize dg (x : Int) i = d at *
    generalize nl x = m at *
    go_enter Try.func87, Try.ntmps87
    go_wp2
    go_ret
    exact ⟨ret_int (by first | rfl | go_num), rfl⟩
  · have hd : dg (x : Int) i = 0 := dg_zero ((nl_le _ _).1 (by omega))
    rw [hd]
    clear hR
    generalize nl x = m at *
    go_enter Try.func87, Try.ntmps87
    go_wp2
    go_ret
    exact ⟨rfl, rfl⟩
theorem rorder_any (va vb : Value) (x y : Nat) (w : World) (ha : Nv w va x) (hb : Nv w vb y) :
    Calls Try.prog 54 #[va, vb] w fun e w' => e = .returned (.int .i64 (cmpZ x y)) ∧ ∃ n, w' = w.drewN n := by
  obtain ⟨oa, ca, rfl, h1, h2, hR⟩ := ha
  obtain ⟨ob, cb, rfl, h3, h4, hS⟩ := hb
  by_cases hne : nl x = nl y
  · have HE : Hid (x / 4294967296 ^ nl x = y / 4294967296 ^ nl x) := by unfold Hid; rw [Nat.div_eq_of_lt (lt_nl x), Nat.div_eq_of_lt (by rw [hne]; exact lt_nl y)]
    have hne1 : (((nl x : Nat) : Int) == ((nl y : Nat) : Int)) = true := by simp; omega
    have HR := Lib.hid hR; have HS := Lib.hid hS
    rw [← hne] at HS hne1 ⊢
    clear hR hS hne
    generalize nl x = m at *
    go_enter Try.func54, Try.ntmps54
    go_wp2
    go_loopw [5] (fun vi wr => ∃ (k n : Nat), k ≤ m ∧ vi = .int .i64 ((k : Int) - 1) ∧ Hid (x / 4294967296 ^ k = y / 4294967296 ^ k ∧ wr = w.drewN n)) (fun vi _ => (intOf vi + 1).toNat)
    case atStart => exact ⟨m, 0, Nat.le_refl _, rfl, HE.out, rfl⟩
    case round =>
      obtain ⟨k, n, hk, rfl, HI⟩ := hrel
      cases k with
      | zero =>
        have hxy : x = y := by have := HI.out.1; simpa using this
        have HW := Lib.hid HI.out.2
        have HC : Hid (cmpZ x y = 0) := by unfold Hid; rw [hxy]; exact cmpZ_eq _
        clear hxy HI
        go_wp2
        go_ret
        exact ⟨by rw [HC.out]; rfl, n, HW.out⟩
      | succ k =>
        have hki : ((k + 1 : Nat) : Int) - 1 = (k : Int) := by omega
        obtain ⟨b, off, rfl, hc⟩ := HR.out k (by omega)
        obtain ⟨b', off', rfl, hc'⟩ := HS.out k (by omega)
        have hcw : wr.cell? ⟨b, off + k, none⟩ = some (.int .u32 ((dg (x : Int) k : Nat) : Int)) := by rw [HI.out.2]; exact hc
        have hcw' : wr.cell? ⟨b', off' + k, none⟩ = some (.int .u32 ((dg (y : Int) k : Nat) : Int)) := by rw [HI.out.2]; exact hc'
        have HSM := Lib.hid (fun h => cmp_same HI.out.1 (i := k) h)
        have HLS := Lib.hid (fun h => cmp_less HI.out.1 (i := k) h)
        have HGT := Lib.hid (fun h => cmp_less HI.out.1.symm (i := k) h)
        have HW := Lib.hid HI.out.2
        clear hc hc' HI
        rw [hki]
        generalize dg (x : Int) k = d at *
        generalize dg (y : Int) k = d' at *
        rcases Nat.lt_trichotomy d d' with hdd | hdd | hdd
        · have HC := Lib.hid (cmpZ_lt (HLS.out hdd))
          have hl : (d : Int) < (d' : Int) := by omega
          clear hdd
          go_wp2
          go_quiet (fail)
          go_wp2
          go_ret
          exact ⟨by rw [HC.out]; rfl, n + nq, by rw [HW.out]; exact World.drewN_drewN _ _ _⟩
        · have HX2 := Lib.hid (HSM.out hdd)
          have hl : ¬ ((d : Int) < (d' : Int)) := by omega
          have hl2 : ¬ ((d' : Int) < (d : Int)) := by omega
          clear hdd
          go_wp2
          go_quiet (fail)
          go_wp2
          go_quiet (fail)
          go_wp2
          rename_i q1 _ _
          go_roundw
          case rel => exact ⟨k, n + (q1 + nq), by omega, rfl, HX2.out, by rw [HW.out]; simp only [World.drewN_drewN, Nat.add_assoc]⟩
          case measure => simp [intOf]
        · have HC := Lib.hid (cmpZ_gt (HGT.out hdd))
          have hl : ¬ ((d : Int) < (d' : Int)) := by omega
          have hl2 : ((d' : Int) < (d : Int)) := by omega
          clear hdd
          go_wp2
          go_quiet (fail)
          go_wp2
          go_quiet (fail)
          go_wp2
          rename_i q1 _
          go_ret
          exact ⟨by rw [HC.out]; rfl, n + (q1 + nq), by rw [HW.out]; simp only [World.drewN_drewN, Nat.add_assoc]⟩
  · have hne1 : (((nl x : Nat) : Int) == ((nl y : Nat) : Int)) = false := by simp; omega
    have hne2 : (((nl x : Nat) : Int) != ((nl y : Nat) : Int)) = true := by simp; omega
    have HL := Lib.hid (fun h => cmpZ_lt (lt_of_nl (x := x) (y := y) h))
    have HG := Lib.hid (fun h => cmpZ_gt (lt_of_nl (x := y) (y := x) h))
    clear hR hS
    generalize nl x = m at *
    generalize nl y = m' at *
    rcases Nat.lt_or_ge m m' with hlt | hlt
    · have HC := Lib.hid (HL.out hlt)
      have hl : (m : Int) < (m' : Int) := by omega
      clear hlt hne
      go_enter Try.func54, Try.ntmps54
      go_wp2
      go_ret
      exact ⟨by rw [HC.out]; rfl, 0, rfl⟩
    · have HC := Lib.hid (HG.out (by omega))
      have hl : ¬ ((m : Int) < (m' : Int)) := by omega
      clear hlt hne
      go_enter Try.func54, Try.ntmps54
      go_wp2
      go_ret
      exact ⟨by rw [HC.out]; rfl, 0, rfl⟩
theorem rorder_on (va vb : Value) (x y : Nat) (w : World) (ha : Nv w va x) (hb : Nv w vb y) :
    Calls Try.prog 54 #[va, vb] w fun e w' => e = .returned (.int .i64 (cmpZ x y)) ∧ On w w' :=
  (rorder_any va vb x y w ha hb).mono fun e w' ⟨h1, n, h2⟩ => ⟨h1, by rw [h2]; exact (On.refl w).drewN n⟩
theorem reven_any (v : Value) (x : Nat) (w : World) (h : Nv w v x) :
    Calls Try.prog 91 #[v] w fun e w' => e = .returned (.bool (decide (x % 2 = 0))) ∧ w = w' := by
  obtain ⟨oa, cap, rfl, hmc, hcap, hR⟩ := h
  rcases Nat.eq_zero_or_pos x with rfl | h0
  · rw [nl_zero]
    go_enter Try.func91, Try.ntmps91
    go_wp2
    go_ret
    exact ⟨rfl, rfl⟩
  · have hn := nl_pos h0
    obtain ⟨b, off, rfl, hc⟩ := hR 0 hn
    rw [Nat.add_zero] at hc
    have hd : dg (x : Int) 0 % 2 = x % 2 := by rw [dg_nat, Nat.pow_zero, Nat.div_one]; omega
    have hn0 : (((nl x : Nat) : Int) == 0) = false := by simp; omega
    have hb := dg_lt (x : Int) 0
    rw [← hd]
    clear hR hd
    generalize dg (x : Int) 0 = d at *
    generalize nl x = m at *
    by_cases hp : d % 2 = 0
    · have hp2 : (((d : Nat) : Int) % 2 == 0) = true := by simp; omega
      have HP := Lib.hid hp; clear hp
      go_enter Try.func91, Try.ntmps91
      go_wp2
      go_ret
      exact ⟨by rw [decide_eq_true HP.out]; rfl, rfl⟩
    · have hp2 : (((d : Nat) : Int) % 2 == 0) = false := by simp; omega
      have HP := Lib.hid hp; clear hp
      go_enter Try.func91, Try.ntmps91
      go_wp2
      go_ret
      exact ⟨by rw [decide_eq_false HP.out]; rfl, rfl⟩
theorem rbounded_any (v : Value) (n : Nat) (w : World) (h : Nv w v n) :
    Calls Try.prog 61 #[v] w fun e w' => ∃ v', e = .returned (.tuple #[v', .int .i64 (limC n)]) ∧ Nv w v' (limN n) ∧ w = w' := by
  have HN := Lib.hid h
  obtain ⟨oa, cap, rfl, -, -, -⟩ := h
  by_cases hl : nl n ≤ 64
  · have HC : Hid (limC n = 0 ∧ limN n = n) := ⟨if_pos hl, if_pos hl⟩
    have hl1 : ¬ (64 < ((nl n : Nat) : Int)) := by omega
    go_enter Try.func61, Try.ntmps61
    go_wp2
    go_ret2
    exact ⟨_, by rw [HC.out.1]; rfl, by rw [HC.out.2]; exact HN.out, rfl⟩
  · have HC : Hid (limC n = 3 ∧ limN n = 0) := ⟨if_neg hl, if_neg hl⟩
    have hl1 : 64 < ((nl n : Nat) : Int) := by omega
    go_enter Try.func61, Try.ntmps61
    go_wp2
    go_ret2
    exact ⟨_, by rw [HC.out.1]; rfl, by rw [HC.out.2]; exact Nv.nil _, rfl⟩
theorem rsame_any (va vb : Value) (m : Nat) (X : Int) (w : World) (ha : Lv w va m X) (hb : Lv w vb m X) :
    Calls Try.prog 18 #[va, vb] w fun e w' => e = .returned (.bool true) ∧ On w w' := by
  obtain ⟨oa, ca, rfl, h1, h2, hR⟩ := ha
  obtain ⟨ob, cb, rfl, h3, h4, hS⟩ := hb
  have HR := Lib.hid hR; have HS := Lib.hid hS
  clear hR hS
  go_enter Try.func18, Try.ntmps18
  go_wp2
  go_loopw [5] (fun vi wr => ∃ k n : Nat, k ≤ m ∧ vi = .int .i64 (k : Int) ∧ Hid (wr = w.drewN n)) (fun vi _ => m - (intOf vi).toNat)
  case atStart => exact ⟨0, 0, Nat.zero_le _, rfl, Lib.hid rfl⟩
  case round =>
    obtain ⟨k, n, hk, rfl, HW⟩ := hrel
    by_cases hlt : k < m
    · obtain ⟨b, off, rfl, hc⟩ := HR.out k hlt
      obtain ⟨b', off', rfl, hc'⟩ := HS.out k hlt
      have hcw : wr.cell? ⟨b, off + k, none⟩ = some (.int .u32 ((dg X k : Nat) : Int)) := by rw [HW.out]; exact hc
      have hcw' : wr.cell? ⟨b', off' + k, none⟩ = some (.int .u32 ((dg X k : Nat) : Int)) := by rw [HW.out]; exact hc'
      clear hc hc'
      generalize dg X k = d at *
      go_wp2
      go_quiet (fail)
      go_wp2
      go_roundw
      case rel => exact ⟨k + 1, n + nq, by omega, by go_num, by unfold Hid; rw [HW.out]; exact World.drewN_drewN _ _ _⟩
      case measure => simp [intOf]; omega
    · obtain rfl : k = m := by omega
      go_wp2
      go_ret
      exact ⟨rfl, by rw [HW.out]; exact (On.refl w).drewN n⟩
end Go.Proofs.Ytdgmlmcllkgemaa

/- The document's own numbers: sum and diff: what each call returns. -/
namespace Go.Proofs.Ytdgmlmcllkgemaa
open Go.RowKit
set_option linter.unusedVariables false

/-- v is a list of the first k limbs of X that was grown in memory from B on. -/
def OwL (B : Nat) (w : World) (v : Value) (k : Nat) (X : Int) : Prop := w.ownsRow B 54 1 v k (limbVals X k)
theorem heap_new2 (w : World) (o : Obj) : (w.alloc o).heap[w.heap.size]? = some o := by
  show (w.heap.push o)[w.heap.size]? = some o
  simp
theorem OwL.nil (B : Nat) (w : World) (X : Int) : OwL B w (.slice none 0 0) 0 X := World.ownsRow_nil w B 54 1
theorem OwL.lv {B : Nat} {w : World} {v : Value} {k : Nat} {X : Int} (h : OwL B w v k X) : Lv w v k X ∧ Zc v := by
  rcases h.2 with ⟨rfl, rfl⟩ | ⟨g, cap, cur, rfl, hb, hg, h1, h2, h3, h4⟩
  · exact ⟨⟨none, 0, rfl, by omega, by omega, fun j hj => by omega⟩, Zc.nil⟩
  · unfold maxLen at h2
    refine ⟨⟨_, cap, rfl, h1, h2, fun j hj => ⟨g, 0, rfl, ?_⟩⟩, Zc.some _ _ _⟩
    rw [Nat.zero_add, World.ownsRow.cellAt h j (by omega)]
    exact limbVals_get X k j hj
theorem limbVals_succ (X : Int) (k : Nat) : limbVals X (k + 1) = limbVals X k ++ [.int .u32 ((dg X k : Nat) : Int)] := by
  unfold limbVals; rw [List.range_succ, List.map_append]; rfl
theorem OwL.append {B : Nat} {w : World} {v : Value} {k : Nat} {X : Int} (h : OwL B w v k X) (hB : B ≤ w.heap.size) (hk : k ≤ 10000000) (z : Int) (hz : z = ((dg X k : Nat) : Int)) :
    ∃ a c w', (∀ ty, (Builtin.append_ #[22, 22] ty #[v, .slice (some ⟨w.heap.size, 0, none⟩) 1 1]).run Try.prog (w.alloc (.cells #[.int .u32 z] 54)) = .ok (.slice a (k + 1) c) w') ∧
      OwL B w' (.slice a (k + 1) c) (k + 1) X ∧ w.grownBy w' v.ownBlock := by
  subst hz
  obtain ⟨i0, hi, hz0, hz1, hz2⟩ := info_parts info_u32
  obtain ⟨wa, hwa⟩ : ∃ wa, wa = w.alloc (.cells #[.int .u32 ((dg X k : Nat) : Int)] 54) := ⟨_, rfl⟩
  have hga : w.grownBy wa none := by rw [hwa]; exact ⟨rfl, rfl, rfl, by simp, fun k hk _ => Below.heap_alloc w _ k hk⟩
  have howna : wa.ownsRow B 54 1 v k (limbVals X k) := by rw [hwa]; exact World.ownsRow.alloc h _
  have hsza : wa.heap.size = w.heap.size + 1 := by rw [hwa]; simp
  have hcell : ∀ j u, [Value.int .u32 ((dg X k : Nat) : Int)][j]? = some u → wa.cell? ((⟨w.heap.size, 0, none⟩ : Addr).add j) = some u := fun j u hj => by
    rw [hwa]
    cases j with
    | zero => simp at hj; subst hj; exact World.cell?_alloc_at _ _ w.heap.size 0 rfl
    | succ j => simp at hj
  rw [← hwa]
  have hls := limbVals_succ X k
  have hll := limbVals_len X k
  generalize limbVals X k = Vs at *
  have key : ∃ v' w', (∀ ty, (Builtin.append_ #[22, 22] ty #[v, .slice (some ⟨w.heap.size, 0, none⟩) 1 1]).run Try.prog wa = .ok v' w') ∧ w'.ownsRow B 54 1 v' (k + 1) (Vs ++ [.int .u32 ((dg X k : Nat) : Int)]) ∧ wa.grownBy w' v.ownBlock := by
    have hgr : ∀ (o : Obj) (row : Option Nat), wa.grownBy (wa.drew.alloc o) row := fun o row => ⟨rfl, rfl, rfl, by simp, fun k hk _ => Below.heap_alloc wa.drew _ k hk⟩
    have hmk : ∀ (old : Nat), (wa.drew.alloc (.cells (Vs.toArray ++ [Value.int .u32 ((dg X k : Nat) : Int)].toArray ++ Builtin.zeroCells (Value.int .u32 0).cells (grownCap wa (k + 1) old 54 - (k + 1))) 54)).ownsRow B 54 1 (.slice (some ⟨wa.heap.size, 0, none⟩) (k + 1) (grownCap wa (k + 1) old 54)) (k + 1) (Vs ++ [.int .u32 ((dg X k : Nat) : Int)]) := fun old => by
      have hge := grownCap_ge wa (k + 1) old 54
      have hcm := grownCap_le_maxLen wa (k + 1) old 54 (by unfold maxLen; omega)
      generalize grownCap wa (k + 1) old 54 = cc at *
      refine ⟨by simp [hll], .inr ⟨wa.heap.size, cc, _, rfl, by omega, heap_new2 _ _, hge, hcm, ?_, ?_⟩⟩
      · simp only [Array.size_append, List.size_toArray, size_zeroCells]
        simp [Value.cells]; omega
      · have e2 : (k + 1) * 1 = (Vs ++ [Value.int .u32 ((dg X k : Nat) : Int)]).length := by simp [hll]
        rw [e2]
        simp only [Array.toList_append, List.append_assoc]
        rw [← List.append_assoc]
        exact List.take_left
    rcases howna.2 with ⟨rfl, rfl⟩ | ⟨g, cap, cur, rfl, hb, hg, h1, h2, h3, h4⟩
    · obtain rfl : Vs = [] := List.length_eq_zero_iff.1 hll
      have hrun := fun ty => run_append_nil2 (P := Try.prog) wa 22 22 ty 54 i0 (.int .u32 0) Try.underlying22 Try.underlying22 hi hz0 ⟨w.heap.size, 0, none⟩ 1 1 [.int .u32 ((dg X 0 : Nat) : Int)] (by rw [hz1]; rfl) hcell (by omega) (by omega) (by rw [hz2]; omega)
      have := hmk 0
      have e0 : ([] : List Value).toArray ++ [Value.int .u32 ((dg X 0 : Nat) : Int)].toArray = [Value.int .u32 ((dg X 0 : Nat) : Int)].toArray := by simp
      rw [e0] at this
      exact ⟨_, _, hrun, this, hgr _ _⟩
    · by_cases hroom : k < cap
      · have hrun := fun ty => run_append_room (P := Try.prog) wa 22 ty 54 i0 Try.underlying22 hi g k cap cur hg ⟨w.heap.size, 0, none⟩ 1 1 [.int .u32 ((dg X k : Nat) : Int)] (by rw [hz1]; rfl) hcell (by simp [Value.oneCell']) (by omega) (by rw [hz1]; simp; omega)
        refine ⟨_, _, hrun, ⟨by simp [hll], .inr ⟨g, cap, _, rfl, hb, setRow_heap _ g cur _ _ _ hg, by omega, h2, ?_, ?_⟩⟩, ?_⟩
        · rw [hz1]; simp; omega
        · rw [hz1, Nat.mul_one, Nat.mul_one]
          rw [Nat.mul_one] at h4
          have hl2 : (cur.toList.take k).length = k := by simp; omega
          rw [List.take_append_of_le_length (by simp; omega), List.take_of_length_le (by simp; omega), h4]
        · refine ⟨rfl, rfl, rfl, by simp, fun k hk hne => ?_⟩
          exact setRow_other _ g k _ (fun e => hne (by rw [e]; rfl))
      · have hrun := fun ty => run_append_grow (P := Try.prog) wa 22 ty 54 i0 (.int .u32 0) Try.underlying22 hi hz0 ⟨g, 0, none⟩ k cap Vs (by rw [hll, hz1, Nat.mul_one])
          (fun j u hj => World.ownsRow.cells howna rfl j u hj)
          ⟨w.heap.size, 0, none⟩ 1 1 [.int .u32 ((dg X k : Nat) : Int)] (by rw [hz1]; rfl) hcell (by omega) (by omega)
          (growslice_fits (by omega) (by rw [hz2]; omega))
        exact ⟨_, _, hrun, hmk cap, hgr _ _⟩
  obtain ⟨v', w', hrun, ho, hg⟩ := key
  obtain ⟨a', c', rfl⟩ : ∃ a' c', v' = .slice a' (k + 1) c' := by
    rcases ho.2 with ⟨rfl, h⟩ | ⟨g, cap, cur, rfl, _⟩
    · omega
    · exact ⟨_, _, rfl⟩
  have hgw : w.grownBy w' v.ownBlock := ⟨hg.os.trans hga.os, hg.tape.trans hga.tape, hg.output.trans hga.output, Nat.le_trans hga.size hg.size, fun k hk hne => (hg.block k (by omega) hne).trans (hga.block k hk (by simp))⟩
  exact ⟨a', c', w', hrun, by unfold OwL; rw [hls]; exact ho, hgw⟩
theorem On.grownL {B : Nat} {W w w' : World} {v : Value} {k : Nat} {X : Int} (h : On W w) (hB : W.heap.size ≤ B) (ho : OwL B w v k X) (g : w.grownBy w' v.ownBlock) : On W w' :=
  Below.grown h g (Below.size h) fun j hj => by have := (World.ownsRow.lt ho j hj).1; omega

set_option maxHeartbeats 1000000 in
theorem rsum_any (va vb : Value) (x y : Nat) (w : World) (ha : Nv w va x) (hb : Nv w vb y) (hx : nl x ≤ 100000) (hy : nl y ≤ 100000) :
    Calls Try.prog 62 #[va, vb] w fun e w' => (∃ v, e = .returned v ∧ Nf w.heap.size w' v (x + y)) ∧ On w w' := by
  have HA := Lib.hid ha; have HB := Lib.hid hb
  obtain ⟨oa, ca, rfl, -, -, -⟩ := ha
  obtain ⟨ob, cb, rfl, -, -, -⟩ := hb
  obtain ⟨M, hM, hMe⟩ : ∃ M : Nat, M ≤ 100000 ∧ max (((nl x : Nat) : Int)) ((nl y : Nat) : Int) = (M : Int) := ⟨max (nl x) (nl y), by omega, by omega⟩
  have HS : Hid (x + y < 4294967296 ^ (M + 1)) := by
    have h := max_bound (x := x) (y := y) (m := M) (by omega) (by omega)
    unfold Hid; rwa [Nat.one_mul] at h
  have HC := Lib.hid (upC_le x y 1); have HCA := Lib.hid (up_carry x y 1); have HDG := Lib.hid (up_digit x y 1)
  have HC0 := Lib.hid (upC_zero x y 1)
  clear hx hy
  generalize nl x = m at *
  generalize nl y = m' at *
  go_enter Try.func62, Try.ntmps62
  go_wp2_with fail
  go_loopw [5, 6, 7] (fun vo vc vi wr => ∃ (k : Nat) (ao : Option Addr) (co : Nat), k ≤ M + 1 ∧ vi = .int .i64 (k : Int) ∧ vc = .int .u64 ((upC x y 1 k : Nat) : Int) ∧ vo = .slice ao k co ∧ Hid (On w wr ∧ OwL w.heap.size wr (.slice ao k co) k ((x + y : Nat) : Int))) (fun _ _ vi _ => M + 1 - (intOf vi).toNat)
  case atStart => exact ⟨0, none, 0, Nat.zero_le _, rfl, by rw [HC0.out]; rfl, rfl, On.refl w, OwL.nil _ _ _⟩
  case round =>
    rename World => wr
    obtain ⟨k, ao, co, hk, rfl, rfl, rfl, HI⟩ := hrel
    by_cases hlt : k < M + 1
    · have hcb := HC.out k
      have HL1 := Lib.hid (rlimb_any (.slice oa m ca) x k wr (HA.out.on HI.out.1) (by omega))
      have HL2 := Lib.hid (rlimb_any (.slice ob m' cb) y k wr (HB.out.on HI.out.1) (by omega))
      have hd1 := dg_lt (x : Int) k; have hd2 := dg_lt (y : Int) k
      have hca := HCA.out k; have hdg := HDG.out k
      rw [Nat.one_mul, Nat.one_mul] at hdg
      rw [Nat.one_mul] at hca
      obtain ⟨s, hs⟩ : ∃ s, s = upC x y 1 k + dg (x : Int) k + dg (y : Int) k := ⟨_, rfl⟩
      rw [← hs] at hca hdg
      have hsb : s ≤ 8589934592 := by omega
      have hse : ((dg (x : Int) k : Nat) : Int) + ((dg (y : Int) k : Nat) : Int) + ((upC x y 1 k : Nat) : Int) = (s : Int) := by omega
      obtain ⟨a2, c2, w3, hrun, ho, hg⟩ := HI.out.2.append HI.out.1.size (by omega) ((s : Int) % 4294967296) (by rw [hdg]; omega)
      have HRUN := Lib.hid hrun
      have HN : Hid (On w w3 ∧ OwL w.heap.size w3 (.slice a2 (k + 1) c2) (k + 1) ((x + y : Nat) : Int)) := ⟨HI.out.1.grownL (Nat.le_refl _) HI.out.2 hg, ho⟩
      have HCN : Hid (upC x y 1 (k + 1) = s / 4294967296) := hca
      clear hrun ho hg hca hdg hs
      generalize dg (x : Int) k = d1 at *
      generalize dg (y : Int) k = d2 at *
      generalize upC x y 1 k = cc at *
      have hw1 : IntKind.u64.wrap ((d1 : Int) + (d2 : Int)) = (d1 : Int) + (d2 : Int) := IntWalk.u64_in _ (by omega)
      have hw2 : IntKind.u64.wrap (s : Int) = (s : Int) := IntWalk.u64_in _ (by omega)
      have hw3 : IntKind.u32.wrap ((s : Int) % 4294967296) = (s : Int) % 4294967296 := IntWalk.u32_in _ (by omega)
      have hkm : (k : Int) < (M : Int) + 1 := by omega
      go_wp2_with (first
        | (go_at_call 87; (with_reducible refine HL1.out.mono ?_); rintro e w' ⟨rfl, rfl⟩)
        | (go_at_call 87; (with_reducible refine HL2.out.mono ?_); rintro e w' ⟨rfl, rfl⟩)
        | (at_builtin; refine wp_append2 rfl (.tmp 28) (.tmp 32) _ _ rfl _ _ _ rfl rfl HRUN.out ?_))
      go_roundw
      case rel => exact ⟨k + 1, a2, c2, by omega, by go_num, by rw [HCN.out]; go_num, rfl, HN.out⟩
      case measure => simp [intOf]; omega
    · obtain rfl : k = M + 1 := by omega
      have HV := Lib.hid HI.out.2.lv
      have HO := Lib.hid HI.out.1
      have hkm : ¬ (((M + 1 : Nat) : Int) < (M : Int) + 1) := by omega
      clear HI
      go_wp2_with fail
      refine (rtrim_any _ _ (x + y) wr HV.out.1 HV.out.2 HS.out (by omega)).mono ?_
      rintro e w6 ⟨⟨u, rfl, hu⟩, hO6⟩
      have HU := Lib.hid (hu.mono HO.out.size); have HO6 := Lib.hid (HO.out.trans hO6)
      clear hu hO6
      go_wp2
      go_ret
      exact ⟨⟨_, rfl, HU.out⟩, HO6.out⟩
end Go.Proofs.Ytdgmlmcllkgemaa

/- The document's own numbers: diff, half, bit, product: what each call returns. -/
namespace Go.Proofs.Ytdgmlmcllkgemaa
open Go.RowKit
set_option linter.unusedVariables false

theorem dn_step (x y k d s : Nat) (hd : d = dg (x : Int) k) (hs : s = dg (y : Int) k + dnC x y 1 k) :
    (d < s → dnC x y 1 (k + 1) = 1 ∧ ((dg ((x : Int) - ((1 * y : Nat) : Int)) k : Nat) : Int) = (d : Int) + 4294967296 - (s : Int)) ∧
    (¬ d < s → dnC x y 1 (k + 1) = 0 ∧ ((dg ((x : Int) - ((1 * y : Nat) : Int)) k : Nat) : Int) = (d : Int) - (s : Int)) := by
  have h1 := dn_carry x y 1 k
  have h2 := dn_digit x y 1 k
  have h3 := dnC_le x y 1 k
  have h4 := dnC_le x y 1 (k + 1)
  have h5 := dg_lt (x : Int) k
  have h6 := dg_lt (y : Int) k
  rw [Nat.one_mul (dg _ _), Nat.add_comm (dnC x y 1 k), ← hs, ← hd] at h1 h2
  rw [← hd] at h5
  generalize dnC x y 1 (k + 1) = c at *
  generalize dg ((x : Int) - ((1 * y : Nat) : Int)) k = z at *
  have h7 : s ≤ 4294967296 := by omega
  clear hd hs
  constructor <;> intro h <;> omega
set_option maxHeartbeats 1000000 in
theorem rdiff_any (va vb : Value) (x y : Nat) (w : World) (ha : Nv w va x) (hb : Nv w vb y) (hyx : y ≤ x) (hx : nl x ≤ 100000) :
    Calls Try.prog 64 #[va, vb] w fun e w' => (∃ v, e = .returned v ∧ Nf w.heap.size w' v (x - y)) ∧ On w w' := by
  have HA := Lib.hid ha; have HB := Lib.hid hb
  obtain ⟨oa, ca, rfl, -, -, -⟩ := ha
  obtain ⟨ob, cb, rfl, -, -, -⟩ := hb
  obtain ⟨X, hX⟩ : ∃ X : Int, X = (x : Int) - ((1 * y : Nat) : Int) := ⟨_, rfl⟩
  have HXE : Hid (X = ((x - y : Nat) : Int)) := by unfold Hid; rw [hX, Nat.one_mul]; omega
  have HST : Hid (∀ k d s, d = dg (x : Int) k → s = dg (y : Int) k + dnC x y 1 k → (d < s → dnC x y 1 (k + 1) = 1 ∧ ((dg X k : Nat) : Int) = (d : Int) + 4294967296 - (s : Int)) ∧ (¬ d < s → dnC x y 1 (k + 1) = 0 ∧ ((dg X k : Nat) : Int) = (d : Int) - (s : Int))) := by
    intro k d s h1 h2; rw [hX]; exact dn_step x y k d s h1 h2
  have HLT : Hid (x - y < 4294967296 ^ nl x) := Nat.lt_of_le_of_lt (Nat.sub_le _ _) (lt_nl x)
  have HC := Lib.hid (dnC_le x y 1); have HC0 := Lib.hid (dnC_zero x y 1)
  clear hX hyx
  generalize nl x = m at *
  generalize nl y = m' at *
  go_enter Try.func64, Try.ntmps64
  go_wp2_with fail
  go_loopw [5, 6, 7] (fun vo vc vi wr => ∃ (k : Nat) (ao : Option Addr) (co : Nat), k ≤ m ∧ vi = .int .i64 (k : Int) ∧ vc = .int .u64 ((dnC x y 1 k : Nat) : Int) ∧ vo = .slice ao k co ∧ Hid (On w wr ∧ OwL w.heap.size wr (.slice ao k co) k X)) (fun _ _ vi _ => m - (intOf vi).toNat)
  case atStart => exact ⟨0, none, 0, Nat.zero_le _, rfl, by rw [HC0.out]; rfl, rfl, On.refl w, OwL.nil _ _ _⟩
  case round =>
    rename World => wr
    obtain ⟨k, ao, co, hk, rfl, rfl, rfl, HI⟩ := hrel
    by_cases hlt : k < m
    · have hcb := HC.out k
      have HL1 := Lib.hid (rlimb_any (.slice oa m ca) x k wr (HA.out.on HI.out.1) (by omega))
      have HL2 := Lib.hid (rlimb_any (.slice ob m' cb) y k wr (HB.out.on HI.out.1) (by omega))
      have hd1 := dg_lt (x : Int) k; have hd2 := dg_lt (y : Int) k
      obtain ⟨s, hs⟩ : ∃ s, s = dg (y : Int) k + dnC x y 1 k := ⟨_, rfl⟩
      have hsb : s ≤ 4294967296 := by omega
      have hse : ((dg (y : Int) k : Nat) : Int) + ((dnC x y 1 k : Nat) : Int) = (s : Int) := by omega
      have HP := Lib.hid (HST.out k _ s rfl hs)
      have HAP := Lib.hid (fun z hz => HI.out.2.append HI.out.1.size (by omega) z hz)
      have HI1 := Lib.hid HI.out.1; have HI2 := Lib.hid HI.out.2
      clear hs HI
      generalize dg (x : Int) k = d at *
      generalize dg (y : Int) k = d2 at *
      generalize dnC x y 1 k = cc at *
      have hw2 : IntKind.u64.wrap (s : Int) = (s : Int) := IntWalk.u64_in _ (by omega)
      have hkm : (k : Int) < (m : Int) := by omega
      by_cases hds : d < s
      · obtain ⟨hc1, hz1⟩ := HP.out.1 hds
        obtain ⟨a2, c2, w3, hrun, ho, hg⟩ := HAP.out ((d : Int) + 4294967296 - (s : Int)) hz1.symm
        have HRUN := Lib.hid hrun; have HCN := Lib.hid hc1
        have HN : Hid (On w w3 ∧ OwL w.heap.size w3 (.slice a2 (k + 1) c2) (k + 1) X) := ⟨HI1.out.grownL (Nat.le_refl _) HI2.out hg, ho⟩
        clear hrun ho hg hc1 hz1
        have hl : (d : Int) < (s : Int) := by omega
        have hw1 : IntKind.u64.wrap ((d : Int) + 4294967296) = (d : Int) + 4294967296 := IntWalk.u64_in _ (by omega)
        have hw3 : IntKind.u64.wrap ((d : Int) + 4294967296 - (s : Int)) = (d : Int) + 4294967296 - (s : Int) := IntWalk.u64_in _ (by omega)
        have hw4 : IntKind.u32.wrap ((d : Int) + 4294967296 - (s : Int)) = (d : Int) + 4294967296 - (s : Int) := IntWalk.u32_in _ (by omega)
        clear hds
        go_wp2_with (first
          | (go_at_call 87; (with_reducible refine HL1.out.mono ?_); rintro e w' ⟨rfl, rfl⟩)
          | (go_at_call 87; (with_reducible refine HL2.out.mono ?_); rintro e w' ⟨rfl, rfl⟩)
          | (at_builtin; refine wp_append2 rfl (.tmp 29) (.tmp 34) _ _ rfl _ _ _ rfl rfl HRUN.out ?_))
        go_roundw
        case rel => exact ⟨k + 1, a2, c2, by omega, by go_num, by rw [HCN.out]; rfl, rfl, HN.out⟩
        case measure => simp [intOf]; omega
      · obtain ⟨hc1, hz1⟩ := HP.out.2 hds
        obtain ⟨a2, c2, w3, hrun, ho, hg⟩ := HAP.out ((d : Int) - (s : Int)) hz1.symm
        have HRUN := Lib.hid hrun; have HCN := Lib.hid hc1
        have HN : Hid (On w w3 ∧ OwL w.heap.size w3 (.slice a2 (k + 1) c2) (k + 1) X) := ⟨HI1.out.grownL (Nat.le_refl _) HI2.out hg, ho⟩
        clear hrun ho hg hc1 hz1
        have hl : ¬ ((d : Int) < (s : Int)) := by omega
        have hw3 : IntKind.u64.wrap ((d : Int) - (s : Int)) = (d : Int) - (s : Int) := IntWalk.u64_in _ (by omega)
        have hw4 : IntKind.u32.wrap ((d : Int) - (s : Int)) = (d : Int) - (s : Int) := IntWalk.u32_in _ (by omega)
        clear hds
        go_wp2_with (first
          | (go_at_call 87; (with_reducible refine HL1.out.mono ?_); rintro e w' ⟨rfl, rfl⟩)
          | (go_at_call 87; (with_reducible refine HL2.out.mono ?_); rintro e w' ⟨rfl, rfl⟩)
          | (at_builtin; refine wp_append2 rfl (.tmp 29) (.tmp 34) _ _ rfl _ _ _ rfl rfl HRUN.out ?_))
        go_roundw
        case rel => exact ⟨k + 1, a2, c2, by omega, by go_num, by rw [HCN.out]; rfl, rfl, HN.out⟩
        case measure => simp [intOf]; omega
    · obtain rfl : k = m := by omega
      have HV := Lib.hid HI.out.2.lv
      have HO := Lib.hid HI.out.1
      clear HI
      rw [HXE.out] at HV
      go_wp2_with fail
      refine (rtrim_any _ _ (x - y) wr HV.out.1 HV.out.2 HLT.out (by omega)).mono ?_
      rintro e w6 ⟨⟨u, rfl, hu⟩, hO6⟩
      have HU := Lib.hid (hu.mono HO.out.size); have HO6 := Lib.hid (HO.out.trans hO6)
      clear hu hO6
      go_wp2
      go_ret
      exact ⟨⟨_, rfl, HU.out⟩, HO6.out⟩

/-- Block B holds the numbers D from its first cell on, and may be written. -/
def Lb (B : Nat) (w : World) (m : Nat) (D : Nat → Nat) : Prop :=
  B < w.heap.size ∧ (∀ j, j < m → w.cell? ⟨B, j, none⟩ = some (.int .u32 ((D j : Nat) : Int))) ∧ ∀ j, w.frozen? ⟨B, j, none⟩ = false
theorem Lb.set {B : Nat} {w : World} {m : Nat} {D D' : Nat → Nat} (h : Lb B w m D) (k : Nat) (hk : k < m) (z : Int) (h1 : z = ((D' k : Nat) : Int)) (h2 : ∀ j, j < m → j ≠ k → D' j = D j) : Lb B (w.setCell ⟨B, k, none⟩ (.int .u32 z)) m D' := by
  subst h1
  refine ⟨by simpa [World.setCell] using h.1, fun j hj => ?_, fun j => by have := h.2.2 j; simpa using this⟩
  by_cases e : j = k
  · subst e; exact World.cell?_setCell_same (h := h.2.1 j hj) ..
  · rw [World.cell?_setCell_other _ _ _ _ (by simp [e]), h.2.1 j hj, h2 j hj e]
theorem Lb.eq {B : Nat} {w : World} {m : Nat} {D D' : Nat → Nat} (h : Lb B w m D) (e : ∀ j, j < m → D' j = D j) : Lb B w m D' := ⟨h.1, fun j hj => by rw [e j hj]; exact h.2.1 j hj, h.2.2⟩
theorem Lb.on {B : Nat} {w w' : World} {m : Nat} {D : Nat → Nat} (h : Lb B w m D) (k : On w w') : Lb B w' m D :=
  ⟨Nat.lt_of_lt_of_le h.1 k.size, fun j hj => by rw [Below.cell k (p := ⟨B, j, none⟩) h.1]; exact h.2.1 j hj, fun j => by rw [Below.frozen k (p := ⟨B, j, none⟩) h.1]; exact h.2.2 j⟩
theorem Lb.drewN {B : Nat} {w : World} {m : Nat} {D : Nat → Nat} (h : Lb B w m D) (n : Nat) : Lb B (w.drewN n) m D := h
theorem Lb.lv {B : Nat} {w : World} {m : Nat} {D : Nat → Nat} {X : Int} (h : Lb B w m D) (hm : m ≤ 9223372036854775807) (e : ∀ j, j < m → D j = dg X j) : Lv w (.slice (some ⟨B, 0, none⟩) m m) m X :=
  ⟨_, m, rfl, Nat.le_refl _, hm, fun j hj => ⟨B, 0, rfl, by rw [Nat.zero_add, h.2.1 j hj, e j hj]⟩⟩
theorem made_lb (w : World) (n : Nat) : Lb w.heap.size (w.alloc (.cells (madeCells #[.int .u32 0] n) 54)) n (fun _ => 0) := by
  refine ⟨by simp, fun j hj => ?_, fun j => made_free w n j⟩
  have := made_cell w n j hj
  rw [Nat.zero_add, dg_zero (pw_pos j)] at this
  exact this
theorem make_runU (n : Nat) (hn : n ≤ 35184372088832) (w : World) :
    (Instr.makeSlice 22 (.int .i64 (n : Int)) (.int .i64 (n : Int))).run Try.prog w = .ok (.slice (some ⟨w.heap.size, 0, none⟩) n n) (w.alloc (.cells (madeCells #[.int .u32 0] n) 54)) := by
  obtain ⟨i0, hi, hz0, hz1, hz2⟩ := info_parts info_u32
  have h := run_make (P := Try.prog) w 22 54 i0 (.int .u32 0) Try.underlying22 hi hz0 .i64 .i64 (n : Int) (n : Int) (by omega) (by omega) (by rw [hz2]; omega) (by omega)
  rw [hz1] at h
  simpa [Value.cells] using h
theorem half_limb (x k : Nat) : dg ((x / 2 : Nat) : Int) k = dg (x : Int) (k + 1) % 2 * 2147483648 + dg (x : Int) k / 2 := by
  have h := shr_limb (x := x) (s := 1) (t := 31) (k := k) (by decide)
  rw [Nat.pow_one] at h
  rw [h]
  omega
theorem nl_half (x : Nat) : x / 2 < 4294967296 ^ nl x := Nat.lt_of_le_of_lt (Nat.div_le_self _ _) (lt_nl x)
set_option maxHeartbeats 1000000 in
theorem rhalf_any (v : Value) (x : Nat) (w : World) (h : Nv w v x) (hx : nl x ≤ 100000) :
    Calls Try.prog 92 #[v] w fun e w' => (∃ v, e = .returned v ∧ Nu w' v (x / 2)) ∧ On w w' := by
  have HA := Lib.hid h
  obtain ⟨oa, ca, rfl, -, -, -⟩ := h
  have HLT := Lib.hid (nl_half x)
  have HTOP : Hid (dg (x : Int) (nl x) = 0) := dg_zero (lt_nl x)
  have HHL := Lib.hid (half_limb x)
  have hmk := make_runU (nl x) (by omega) w
  have HMK := Lib.hid (made_lb w (nl x))
  generalize nl x = m at *
  obtain ⟨w0, hw0⟩ : ∃ w0, w0 = w.alloc (.cells (madeCells #[.int .u32 0] m) 54) := ⟨_, rfl⟩
  have HO0 : Hid (On w w0) := by unfold Hid; rw [hw0]; exact (On.refl w).alloc _
  obtain ⟨B, hB⟩ : ∃ B, B = w.heap.size := ⟨_, rfl⟩
  rw [← hw0, ← hB] at hmk HMK
  have HBE := Lib.hid hB
  clear hw0 hB
  go_enter Try.func92, Try.ntmps92
  go_wp2_with fail
  go_loopw [4, 5] (fun vc vi wr => ∃ (k : Nat), k ≤ m ∧ vi = .int .i64 ((k : Int) - 1) ∧ vc = .int .u32 ((dg (x : Int) k % 2 * 2147483648 : Nat) : Int) ∧ Hid (On w wr ∧ Lb B wr m (fun j => if k ≤ j then dg ((x / 2 : Nat) : Int) j else 0))) (fun _ vi _ => (intOf vi + 1).toNat)
  case atStart => exact ⟨m, Nat.le_refl _, rfl, by rw [HTOP.out]; rfl, HO0.out, HMK.out.eq fun j hj => by rw [if_neg (by omega)]⟩
  case round =>
    rename World => wr
    obtain ⟨k, hk, rfl, rfl, HI⟩ := hrel
    cases k with
    | zero =>
      have HV := Lib.hid (HI.out.2.lv (X := ((x / 2 : Nat) : Int)) (by omega) fun j hj => by rw [if_pos (Nat.zero_le _)])
      have HO := Lib.hid HI.out.1
      clear HI
      go_wp2_with fail
      refine (rtrim_any _ m (x / 2) wr HV.out (Zc.some _ _ _) HLT.out (by omega)).mono ?_
      rintro e w6 ⟨⟨u, rfl, hu⟩, hO6⟩
      have HU := Lib.hid hu.1; have HO6 := Lib.hid (HO.out.trans hO6)
      clear hu hO6
      go_wp2
      go_ret
      exact ⟨⟨_, rfl, HU.out⟩, HO6.out⟩
    | succ k =>
      have hki : ((k + 1 : Nat) : Int) - 1 = (k : Int) := by omega
      obtain ⟨o', c', he, -, -, hR⟩ := HA.out.on HI.out.1
      simp only [Value.slice.injEq] at he
      obtain ⟨rfl, hnx, rfl⟩ := he
      obtain ⟨b, off, rfl, hc⟩ := hR k (by omega)
      have hco : wr.cell? ⟨B, k, none⟩ = some (.int .u32 0) := (HI.out.2.2.1 k (by omega)).trans (by
        show some (Value.int .u32 ((if k + 1 ≤ k then dg ((x / 2 : Nat) : Int) k else 0 : Nat) : Int)) = _
        rw [if_neg (by omega)]; rfl)
      have hfo := HI.out.2.2.2 k
      have hd := dg_lt (x : Int) k
      have hh := HHL.out k
      have hd1 := dg_lt (x : Int) (k + 1)
      have HN : Hid (∀ z : Int, z = ((dg ((x / 2 : Nat) : Int) k : Nat) : Int) → On w (wr.setCell ⟨B, k, none⟩ (.int .u32 z)) ∧ Lb B (wr.setCell ⟨B, k, none⟩ (.int .u32 z)) m (fun j => if k ≤ j then dg ((x / 2 : Nat) : Int) j else 0)) := fun z hz =>
        ⟨HI.out.1.setCell (by rw [HBE.out]; exact Nat.le_refl _) _, HI.out.2.set k (by omega) z (by rw [if_pos (Nat.le_refl _)]; exact hz) fun j hj e => by
          by_cases h : k + 1 ≤ j
          · rw [if_pos h, if_pos (by omega)]
          · rw [if_neg h, if_neg (by omega)]⟩
      have HRD : Hid (∀ z : Int, (wr.setCell ⟨B, k, none⟩ (.int .u32 z)).cell? ⟨b, off + k, none⟩ = some (.int .u32 ((dg (x : Int) k : Nat) : Int))) := fun z => by
        obtain ⟨o'', c'', he2, -, -, hR2⟩ := HA.out
        simp only [Value.slice.injEq] at he2
        obtain ⟨rfl, -, -⟩ := he2
        obtain ⟨b2, off2, h5, h6⟩ := hR2 k (by omega)
        simp only [Option.some.injEq, Addr.mk.injEq, and_true] at h5
        obtain ⟨rfl, rfl⟩ := h5
        rw [World.cell?_setCell_other _ _ _ _ (by have h7 := cell_size h6; intro e; have h8 := congrArg Addr.block e; have h9 : B = w.heap.size := HBE.out; simp at h7 h8; omega)]
        exact hc
      clear hR hnx HI
      generalize hde : dg (x : Int) k = d at *
      have HDE := Lib.hid hde; clear hde
      generalize dg (x : Int) (k + 1) = d1 at *
      obtain ⟨cr, hcr⟩ : ∃ cr : Nat, cr = d1 % 2 * 2147483648 := ⟨_, rfl⟩
      rw [← hcr] at hh ⊢
      have hcb : cr ≤ 2147483648 := by omega
      have hz : (d : Int) / 2 + (cr : Int) = ((dg ((x / 2 : Nat) : Int) k : Nat) : Int) := by rw [hh]; omega
      have hzb := dg_lt ((x / 2 : Nat) : Int) k
      have HNZ := Lib.hid (HN.out _ rfl)
      have HRZ := Lib.hid (HRD.out ((dg ((x / 2 : Nat) : Int) k : Nat) : Int))
      generalize dg ((x / 2 : Nat) : Int) k = zz at *
      have hrz := HRZ.out
      have hw1 : IntKind.u32.wrap (zz : Int) = (zz : Int) := IntWalk.u32_in _ (by omega)
      have hw2 : IntKind.u32.wrap ((d : Int) % 2 * 2147483648) = (d : Int) % 2 * 2147483648 := IntWalk.u32_in _ (by omega)
      have hkm : (k : Int) < (m : Int) := by omega
      clear hh hcr HN HRD
      rw [hki]
      go_wp2
      go_roundw
      case rel => exact ⟨k, by omega, by go_num, val_int (by rw [HDE.out]; omega), HNZ.out⟩
      case measure => simp [intOf]
theorem bit_eq (x k s : Nat) (hs : s < 32) : dg (x : Int) k / 2 ^ s % 2 = x / 2 ^ (32 * k + s) % 2 := by
  have e : (4294967296 : Nat) ^ k = 2 ^ (32 * k) := by rw [Nat.pow_mul]
  rw [dg_nat, e, Nat.pow_add, ← Nat.div_div_eq_div_mul]
  generalize x / 2 ^ (32 * k) = u
  have e2 : (4294967296 : Nat) = 2 ^ s * 2 ^ (32 - s) := by rw [← Nat.pow_add, show s + (32 - s) = 32 by omega]
  rw [e2, Nat.mod_mul_right_div_self, Nat.mod_mod_of_dvd]
  exact ⟨2 ^ (31 - s), by show 2 ^ (32 - s) = 2 * 2 ^ (31 - s); rw [← Nat.pow_succ', show (31 - s).succ = 32 - s by omega]⟩
theorem rbit_any (v : Value) (x k s : Nat) (w : World) (h : Nv w v x) (hk : k < nl x) (hs : s < 32) (hx : nl x ≤ 100000) :
    Calls Try.prog 89 #[v, .int .i64 ((32 * k + s : Nat) : Int)] w fun e w' => e = .returned (.int .u32 ((x / 2 ^ (32 * k + s) % 2 : Nat) : Int)) ∧ w = w' := by
  obtain ⟨oa, cap, rfl, hmc, hcap, hR⟩ := h
  obtain ⟨b, off, rfl, hc⟩ := hR k hk
  have hb := dg_lt (x : Int) k
  have HBE := Lib.hid (bit_eq x k s hs)
  clear hR
  generalize dg (x : Int) k = d at *
  generalize nl x = m at *
  have hsh : (2 : Nat) ^ s ≤ 2147483648 := Nat.pow_le_pow_right (by decide) (show s ≤ 31 by omega)
  obtain ⟨p, hp⟩ : ∃ p : Nat, p = 2 ^ s := ⟨_, rfl⟩
  have hp0 : 0 < p := by rw [hp]; exact Nat.pow_pos (by decide)
  rw [← hp] at hsh HBE
  have hpi : (2 : Int) ^ s = (p : Int) := by rw [hp, Int.natCast_pow]; rfl
  have HPE := Lib.hid hp; clear hp
  obtain ⟨i, hi⟩ : ∃ i, i = 32 * k + s := ⟨_, rfl⟩
  have hq : (i : Int) / 32 = (k : Int) := by omega
  have hr : (i : Int) % 32 = (s : Int) := by omega
  have hib : i ≤ 3300000 := by omega
  have hwk : IntKind.i64.wrap (k : Int) = (k : Int) := IntWalk.i64_in _ (by omega)
  have hws : IntKind.i64.wrap (s : Int) = (s : Int) := IntWalk.i64_in _ (by omega)
  have hwu : IntKind.u64.wrap (s : Int) = (s : Int) := IntWalk.u64_in _ (by omega)
  have hkm : (k : Int) < (m : Int) := by omega
  have hk0 : (0 : Int) ≤ (k : Int) := by omega
  rw [← hi] at HBE ⊢
  clear hi
  go_enter Try.func89, Try.ntmps89
  go_wp2
  go_ret
  exact ⟨ret_int (by rw [← HBE.out]; go_num), rfl⟩
end Go.Proofs.Ytdgmlmcllkgemaa
