/- The document's own numbers: trim, limb, order, even, SameNat, bounded: what each call returns. -/
import Derived.Test.YtdgmlmcllkgemaaOwn
import Derived.Test.YtdgmlmcllkgemaaPub
import Derived.Laws.AppendOwn
import Derived.Laws.OwnMore
namespace Go.Proofs.Ytdgmlmcllkgemaa
open Go.RowKit
set_option linter.unusedVariables false

/-- A slice without memory has no room. -/
def Zc (v : Value) : Prop := ∀ m c, v = .slice none m c → c = 0
theorem Zc.some (a : Addr) (m c : Nat) : Zc (.slice (some a) m c) := fun m' c' h => by simp at h
theorem Zc.nil : Zc (.slice none 0 0) := fun m c h => by simp at h; omega
/-- The slice v reads as the number n. -/
def Nu (w : World) (v : Value) (n : Nat) : Prop := Nv w v n ∧ Zc v
theorem Nu.on {w w' : World} {v : Value} {n : Nat} (h : Nu w v n) (k : On w w') : Nu w' v n := ⟨h.1.on k, h.2⟩
theorem Nu.nil (w : World) : Nu w (.slice none 0 0) 0 := ⟨Nv.nil w, Zc.nil⟩
/-- What v shows lies in memory from B on. -/
def At (B : Nat) (v : Value) : Prop := ∀ b o n c, v = .slice (some ⟨b, o, none⟩) n c → B ≤ b
theorem At.nil (B : Nat) : At B (.slice none 0 0) := fun b o n c h => by simp at h
theorem At.mono {B C : Nat} {v : Value} (h : At B v) (k : C ≤ B) : At C v := fun b o n c e => Nat.le_trans k (h b o n c e)
theorem At.some {B g : Nat} {n c : Nat} (h : B ≤ g) : At B (.slice (some ⟨g, 0, none⟩) n c) := fun b o n c e => by
  simp only [Value.slice.injEq, Option.some.injEq, Addr.mk.injEq] at e
  obtain ⟨⟨rfl, -⟩, -⟩ := e
  exact h
def Nf (B : Nat) (w : World) (v : Value) (n : Nat) : Prop := Nu w v n ∧ At B v
theorem Nf.on {B : Nat} {w w' : World} {v : Value} {n : Nat} (h : Nf B w v n) (k : On w w') : Nf B w' v n := ⟨h.1.on k, h.2⟩
theorem Nf.mono {B C : Nat} {w : World} {v : Value} {n : Nat} (h : Nf B w v n) (k : C ≤ B) : Nf C w v n := ⟨h.1, h.2.mono k⟩
theorem Nf.set {B C : Nat} {w : World} {v : Value} {n : Nat} (h : Nf B w v n) (hC : C < B) (k : Nat) (u : Value) : Nf B (w.setCell ⟨C, k, none⟩ u) v n := by
  obtain ⟨⟨⟨oa, cap, e, h1, h2, h3⟩, h4⟩, h5⟩ := h
  refine ⟨⟨⟨oa, cap, e, h1, h2, fun j hj => ?_⟩, h4⟩, h5⟩
  obtain ⟨b, off, e2, hc⟩ := h3 j hj
  refine ⟨b, off, e2, ?_⟩
  subst e2
  have := h5 b off _ _ e
  rw [World.cell?_setCell_other _ _ _ _ (by intro e3; have := congrArg Addr.block e3; simp at this; omega)]
  exact hc
theorem append_limbsz (w : World) (t u : TypeId) (ht : Try.prog.underlying t = some (.slice 54)) (hu : Try.prog.underlying u = some (.slice 54)) (oa : Option Addr) (k c : Nat) (X : Int) (hR : Rd w oa k X) (hk : k ≤ 1000000) :
    ∃ v' w', (∀ ty, (Builtin.append_ #[t, u] ty #[.slice none 0 0, .slice oa k c]).run Try.prog w = .ok v' w') ∧ Lv w' v' k X ∧ On w w' ∧ Zc v' ∧ At w.heap.size v' := by
  obtain ⟨i0, hi, hz0, hz1, hz2⟩ := info_parts info_u32
  rcases Nat.eq_zero_or_pos k with h0 | h0
  · subst h0
    exact ⟨_, _, fun ty => run_append_none2 w t u ty _ i0 ht hu hi oa c, ⟨none, 0, rfl, Nat.le_refl _, by omega, fun j hj => by omega⟩, On.refl _, Zc.nil, At.nil _⟩
  · obtain ⟨b, off, rfl, _⟩ := hR 0 h0
    have hR' : ∀ j, j < k → w.cell? ⟨b, off + j, none⟩ = some (.int .u32 ((dg X j : Nat) : Int)) := fun j hj => by
      obtain ⟨b', off', h1, h2⟩ := hR j hj
      simp only [Option.some.injEq, Addr.mk.injEq] at h1
      obtain ⟨rfl, rfl, -⟩ := h1
      exact h2
    have hrun := fun ty => run_append_nil2 (P := Try.prog) w t u ty 54 i0 (.int .u32 0) ht hu hi hz0 ⟨b, off, none⟩ k c (limbVals X k) (by rw [limbVals_len, hz1, Nat.mul_one])
      (fun j v hj => by
        have hj' : j < k := by have := (List.getElem?_eq_some_iff.1 hj).1; rwa [limbVals_len] at this
        rw [limbVals_get _ _ _ hj'] at hj
        rw [← hj, show (⟨b, off, none⟩ : Addr).add j = ⟨b, off + j, none⟩ by unfold Addr.add; split <;> simp_all]
        exact hR' j hj') h0 (by omega) (by rw [hz2]; omega)
    have hge := grownCap_ge w k 0 54
    have hle := grownCap_le_maxLen w k 0 54 (by unfold maxLen; omega)
    refine ⟨_, _, hrun, ⟨_, _, rfl, hge, by unfold maxLen at hle; omega, fun j hj => ⟨_, _, rfl, ?_⟩⟩, (On.refl w).drew.alloc _, Zc.some _ _ _, At.some (Nat.le_refl _)⟩
    rw [Nat.zero_add]
    have hs : w.drew.heap.size = w.heap.size := rfl
    rw [← hs, World.cell?_alloc_new, Array.getElem?_append_left (by simp [limbVals_len]; exact hj)]
    have := limbVals_get X k j hj
    simpa using this
set_option maxHeartbeats 1000000 in
theorem rtrim_any (v : Value) (m x : Nat) (w : World) (h : Lv w v m (x : Int)) (hz : Zc v) (hx : x < 4294967296 ^ m) (hm : m ≤ 1000000) :
    Calls Try.prog 58 #[v] w fun e w' => (∃ v', e = .returned v' ∧ Nf w.heap.size w' v' x) ∧ On w w' := by
  obtain ⟨oa, cap, rfl, hmc, hcap, hR⟩ := h
  have hnil : oa = none → cap = 0 := fun e => hz m cap (by rw [e])
  have HR := Lib.hid hR; clear hR hz
  go_enter Try.func58, Try.ntmps58
  go_hidden (go_wp2)
  go_loop [3] (fun vi => ∃ k : Nat, vi = .int .i64 (k : Int) ∧ k ≤ m ∧ Hid (x < 4294967296 ^ k)) (fun vi => (intOf vi).toNat)
  case atStart => exact ⟨m, rfl, Nat.le_refl _, hx⟩
  case round =>
    obtain ⟨k, rfl, hk, HXK⟩ := hrel
    have FIN : Hid (nl x = k → ∃ v' w', (∀ ty, (Builtin.append_ #[23, 22] ty #[.slice none 0 0, .slice oa k cap]).run Try.prog w = .ok v' w') ∧ Nf w.heap.size w' v' x ∧ On w w') := fun hd => by
      obtain ⟨v', w', h1, h2, h3, h4, h5⟩ := append_limbsz w 23 22 Try.underlying23 Try.underlying22 oa k cap (x : Int) (HR.out.shorter (by omega)) (by omega)
      exact ⟨v', w', h1, ⟨⟨by unfold Nv; rw [hd]; exact h2, h4⟩, h5⟩, h3⟩
    cases k with
    | zero =>
      have hx0 : x = 0 := by have := HXK.out; simpa using this
      obtain ⟨v', w1, hrun, hv, hO⟩ := FIN.out (by rw [hx0, nl_zero])
      have HRUN := Lib.hid hrun; have HV := Lib.hid hv; have HO := Lib.hid hO
      clear hrun hv hO hx0
      rcases oa with _ | ad
      · have hc0 := hnil rfl
        subst hc0
        go_wp2_with (at_builtin; refine wp_append2 rfl (.tmp 19) (.tmp 22) _ _ rfl _ _ v' rfl rfl HRUN.out ?_)
        go_wp2
        go_ret
        exact ⟨⟨_, rfl, HV.out⟩, HO.out⟩
      · go_wp2_with (at_builtin; refine wp_append2 rfl (.tmp 19) (.tmp 22) _ _ rfl _ _ v' rfl rfl HRUN.out ?_)
        go_wp2
        go_ret
        exact ⟨⟨_, rfl, HV.out⟩, HO.out⟩
    | succ k =>
      obtain ⟨b, off, rfl, hc⟩ := HR.out k (by omega)
      have hki : ((k + 1 : Nat) : Int) - 1 = (k : Int) := by omega
      have hkp : decide (0 < ((k + 1 : Nat) : Int)) = true := by simp; try omega
      by_cases hd : dg (x : Int) k = 0
      · rw [hd] at hc
        have HX2 : Hid (x < 4294967296 ^ k) := trim_step HXK.out hd
        clear FIN hd
        go_wp2
        go_round
        case rel => exact ⟨k, by go_num, by omega, HX2.out⟩
        case measure => simp [intOf]
      · obtain ⟨v', w1, hrun, hv, hO⟩ := FIN.out (trim_stop HXK.out hd)
        have HRUN := Lib.hid hrun; have HV := Lib.hid hv; have HO := Lib.hid hO
        clear hrun hv hO
        have hd0 : (((dg (x : Int) k : Nat) : Int) == 0) = false := by simp; omega
        clear FIN hd
        generalize dg (x : Int) k = d at *
        go_wp2_with (at_builtin; refine wp_append2 rfl (.tmp 19) (.tmp 22) _ _ rfl _ _ v' rfl rfl HRUN.out ?_)
        go_wp2
        go_ret
        exact ⟨⟨_, rfl, HV.out⟩, HO.out⟩
theorem rlimb_any (v : Value) (x i : Nat) (w : World) (h : Nv w v x) (hi : i ≤ 1000001) :
    Calls Try.prog 87 #[v, .int .i64 (i : Int)] w fun e w' => e = .returned (.int .u64 ((dg (x : Int) i : Nat) : Int)) ∧ w = w' := by
  obtain ⟨oa, cap, rfl, hmc, hcap, hR⟩ := h
  by_cases hlt : i < nl x
  · obtain ⟨b, off, rfl, hc⟩ := hR i hlt
    have hb := dg_lt (x : Int) i
    clear hR
    generalize dg (x : Int) i = d at *
    generalize nl x = m at *
    go_enter Try.func87, Try.ntmps87
    go_wp2
    go_ret
    exact ⟨ret_int (by first | rfl | go_num), rfl⟩
  · have hd : dg (x : Int) i = 0 := dg_zero ((nl_le _ _).1 (by omega))
    rw [hd]
    clear hR
    generalize nl x = m at *
    go_enter Try.func87, Try.ntmps87
    go_wp2
    go_ret
    exact ⟨rfl, rfl⟩
theorem rorder_any (va vb : Value) (x y : Nat) (w : World) (ha : Nv w va x) (hb : Nv w vb y) :
    Calls Try.prog 54 #[va, vb] w fun e w' => e = .returned (.int .i64 (cmpZ x y)) ∧ ∃ n, w' = w.drewN n := by
  obtain ⟨oa, ca, rfl, h1, h2, hR⟩ := ha
  obtain ⟨ob, cb, rfl, h3, h4, hS⟩ := hb
  by_cases hne : nl x = nl y
  · have HE : Hid (x / 4294967296 ^ nl x = y / 4294967296 ^ nl x) := by unfold Hid; rw [Nat.div_eq_of_lt (lt_nl x), Nat.div_eq_of_lt (by rw [hne]; exact lt_nl y)]
    have hne1 : (((nl x : Nat) : Int) == ((nl y : Nat) : Int)) = true := by simp; omega
    have HR := Lib.hid hR; have HS := Lib.hid hS
    rw [← hne] at HS hne1 ⊢
    clear hR hS hne
    generalize nl x = m at *
    go_enter Try.func54, Try.ntmps54
    go_wp2
    go_loopw [5] (fun vi wr => ∃ (k n : Nat), k ≤ m ∧ vi = .int .i64 ((k : Int) - 1) ∧ Hid (x / 4294967296 ^ k = y / 4294967296 ^ k ∧ wr = w.drewN n)) (fun vi _ => (intOf vi + 1).toNat)
    case atStart => exact ⟨m, 0, Nat.le_refl _, rfl, HE.out, rfl⟩
    case round =>
      obtain ⟨k, n, hk, rfl, HI⟩ := hrel
      cases k with
      | zero =>
        have hxy : x = y := by have := HI.out.1; simpa using this
        have HW := Lib.hid HI.out.2
        have HC : Hid (cmpZ x y = 0) := by unfold Hid; rw [hxy]; exact cmpZ_eq _
        clear hxy HI
        go_wp2
        go_ret
        exact ⟨by rw [HC.out]; rfl, n, HW.out⟩
      | succ k =>
        have hki : ((k + 1 : Nat) : Int) - 1 = (k : Int) := by omega
        obtain ⟨b, off, rfl, hc⟩ := HR.out k (by omega)
        obtain ⟨b', off', rfl, hc'⟩ := HS.out k (by omega)
        have hcw : wr.cell? ⟨b, off + k, none⟩ = some (.int .u32 ((dg (x : Int) k : Nat) : Int)) := by rw [HI.out.2]; exact hc
        have hcw' : wr.cell? ⟨b', off' + k, none⟩ = some (.int .u32 ((dg (y : Int) k : Nat) : Int)) := by rw [HI.out.2]; exact hc'
        have HSM := Lib.hid (fun h => cmp_same HI.out.1 (i := k) h)
        have HLS := Lib.hid (fun h => cmp_less HI.out.1 (i := k) h)
        have HGT := Lib.hid (fun h => cmp_less HI.out.1.symm (i := k) h)
        have HW := Lib.hid HI.out.2
        clear hc hc' HI
        rw [hki]
        generalize dg (x : Int) k = d at *
        generalize dg (y : Int) k = d' at *
        rcases Nat.lt_trichotomy d d' with hdd | hdd | hdd
        · have HC := Lib.hid (cmpZ_lt (HLS.out hdd))
          have hl : (d : Int) < (d' : Int) := by omega
          clear hdd
          go_wp2
          go_quiet (fail)
          go_wp2
          go_ret
          exact ⟨by rw [HC.out]; rfl, n + nq, by rw [HW.out]; exact World.drewN_drewN _ _ _⟩
        · have HX2 := Lib.hid (HSM.out hdd)
          have hl : ¬ ((d : Int) < (d' : Int)) := by omega
          have hl2 : ¬ ((d' : Int) < (d : Int)) := by omega
          clear hdd
          go_wp2
          go_quiet (fail)
          go_wp2
          go_quiet (fail)
          go_wp2
          rename_i q1 _ _
          go_roundw
          case rel => exact ⟨k, n + (q1 + nq), by omega, rfl, HX2.out, by rw [HW.out]; simp only [World.drewN_drewN, Nat.add_assoc]⟩
          case measure => simp [intOf]
        · have HC := Lib.hid (cmpZ_gt (HGT.out hdd))
          have hl : ¬ ((d : Int) < (d' : Int)) := by omega
          have hl2 : ((d' : Int) < (d : Int)) := by omega
          clear hdd
          go_wp2
          go_quiet (fail)
          go_wp2
          go_quiet (fail)
          go_wp2
          rename_i q1 _
          go_ret
          exact ⟨by rw [HC.out]; rfl, n + (q1 + nq), by rw [HW.out]; simp only [World.drewN_drewN, Nat.add_assoc]⟩
  · have hne1 : (((nl x : Nat) : Int) == ((nl y : Nat) : Int)) = false := by simp; omega
    have hne2 : (((nl x : Nat) : Int) != ((nl y : Nat) : Int)) = true := by simp; omega
    have HL := Lib.hid (fun h => cmpZ_lt (lt_of_nl (x := x) (y := y) h))
    have HG := Lib.hid (fun h => cmpZ_gt (lt_of_nl (x := y) (y := x) h))
    clear hR hS
    generalize nl x = m at *
    generalize nl y = m' at *
    rcases Nat.lt_or_ge m m' with hlt | hlt
    · have HC := Lib.hid (HL.out hlt)
      have hl : (m : Int) < (m' : Int) := by omega
      clear hlt hne
      go_enter Try.func54, Try.ntmps54
      go_wp2
      go_ret
      exact ⟨by rw [HC.out]; rfl, 0, rfl⟩
    · have HC := Lib.hid (HG.out (by omega))
      have hl : ¬ ((m : Int) < (m' : Int)) := by omega
      clear hlt hne
      go_enter Try.func54, Try.ntmps54
      go_wp2
      go_ret
      exact ⟨by rw [HC.out]; rfl, 0, rfl⟩
theorem rorder_on (va vb : Value) (x y : Nat) (w : World) (ha : Nv w va x) (hb : Nv w vb y) :
    Calls Try.prog 54 #[va, vb] w fun e w' => e = .returned (.int .i64 (cmpZ x y)) ∧ On w w' :=
  (rorder_any va vb x y w ha hb).mono fun e w' ⟨h1, n, h2⟩ => ⟨h1, by rw [h2]; exact (On.refl w).drewN n⟩
theorem reven_any (v : Value) (x : Nat) (w : World) (h : Nv w v x) :
    Calls Try.prog 91 #[v] w fun e w' => e = .returned (.bool (decide (x % 2 = 0))) ∧ w = w' := by
  obtain ⟨oa, cap, rfl, hmc, hcap, hR⟩ := h
  rcases Nat.eq_zero_or_pos x with rfl | h0
  · rw [nl_zero]
    go_enter Try.func91, Try.ntmps91
    go_wp2
    go_ret
    exact ⟨rfl, rfl⟩
  · have hn := nl_pos h0
    obtain ⟨b, off, rfl, hc⟩ := hR 0 hn
    rw [Nat.add_zero] at hc
    have hd : dg (x : Int) 0 % 2 = x % 2 := by rw [dg_nat, Nat.pow_zero, Nat.div_one]; omega
    have hn0 : (((nl x : Nat) : Int) == 0) = false := by simp; omega
    have hb := dg_lt (x : Int) 0
    rw [← hd]
    clear hR hd
    generalize dg (x : Int) 0 = d at *
    generalize nl x = m at *
    by_cases hp : d % 2 = 0
    · have hp2 : (((d : Nat) : Int) % 2 == 0) = true := by simp; omega
      have HP := Lib.hid hp; clear hp
      go_enter Try.func91, Try.ntmps91
      go_wp2
      go_ret
      exact ⟨by rw [decide_eq_true HP.out]; rfl, rfl⟩
    · have hp2 : (((d : Nat) : Int) % 2 == 0) = false := by simp; omega
      have HP := Lib.hid hp; clear hp
      go_enter Try.func91, Try.ntmps91
      go_wp2
      go_ret
      exact ⟨by rw [decide_eq_false HP.out]; rfl, rfl⟩
theorem rbounded_any (v : Value) (n : Nat) (w : World) (h : Nv w v n) :
    Calls Try.prog 61 #[v] w fun e w' => ∃ v', e = .returned (.tuple #[v', .int .i64 (limC n)]) ∧ Nv w v' (limN n) ∧ w = w' := by
  have HN := Lib.hid h
  obtain ⟨oa, cap, rfl, -, -, -⟩ := h
  by_cases hl : nl n ≤ 64
  · have HC : Hid (limC n = 0 ∧ limN n = n) := ⟨if_pos hl, if_pos hl⟩
    have hl1 : ¬ (64 < ((nl n : Nat) : Int)) := by omega
    go_enter Try.func61, Try.ntmps61
    go_wp2
    go_ret2
    exact ⟨_, by rw [HC.out.1]; rfl, by rw [HC.out.2]; exact HN.out, rfl⟩
  · have HC : Hid (limC n = 3 ∧ limN n = 0) := ⟨if_neg hl, if_neg hl⟩
    have hl1 : 64 < ((nl n : Nat) : Int) := by omega
    go_enter Try.func61, Try.ntmps61
    go_wp2
    go_ret2
    exact ⟨_, by rw [HC.out.1]; rfl, by rw [HC.out.2]; exact Nv.nil _, rfl⟩
theorem rsame_any (va vb : Value) (m : Nat) (X : Int) (w : World) (ha : Lv w va m X) (hb : Lv w vb m X) :
    Calls Try.prog 18 #[va, vb] w fun e w' => e = .returned (.bool true) ∧ On w w' := by
  obtain ⟨oa, ca, rfl, h1, h2, hR⟩ := ha
  obtain ⟨ob, cb, rfl, h3, h4, hS⟩ := hb
  have HR := Lib.hid hR; have HS := Lib.hid hS
  clear hR hS
  go_enter Try.func18, Try.ntmps18
  go_wp2
  go_loopw [5] (fun vi wr => ∃ k n : Nat, k ≤ m ∧ vi = .int .i64 (k : Int) ∧ Hid (wr = w.drewN n)) (fun vi _ => m - (intOf vi).toNat)
  case atStart => exact ⟨0, 0, Nat.zero_le _, rfl, Lib.hid rfl⟩
  case round =>
    obtain ⟨k, n, hk, rfl, HW⟩ := hrel
    by_cases hlt : k < m
    · obtain ⟨b, off, rfl, hc⟩ := HR.out k hlt
      obtain ⟨b', off', rfl, hc'⟩ := HS.out k hlt
      have hcw : wr.cell? ⟨b, off + k, none⟩ = some (.int .u32 ((dg X k : Nat) : Int)) := by rw [HW.out]; exact hc
      have hcw' : wr.cell? ⟨b', off' + k, none⟩ = some (.int .u32 ((dg X k : Nat) : Int)) := by rw [HW.out]; exact hc'
      clear hc hc'
      generalize dg X k = d at *
      go_wp2
      go_quiet (fail)
      go_wp2
      go_roundw
      case rel => exact ⟨k + 1, n + nq, by omega, by go_num, by unfold Hid; rw [HW.out]; exact World.drewN_drewN _ _ _⟩
      case measure => simp [intOf]; omega
    · obtain rfl : k = m := by omega
      go_wp2
      go_ret
      exact ⟨rfl, by rw [HW.out]; exact (On.refl w).drewN n⟩
end Go.Proofs.Ytdgmlmcllkgemaa
