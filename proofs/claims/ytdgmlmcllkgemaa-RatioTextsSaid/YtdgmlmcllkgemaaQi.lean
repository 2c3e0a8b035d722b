/- The document's own Text, beside the program's: the same answers. -/
import Derived.Test.YtdgmlmcllkgemaaQh
import Derived.Test.YtdgmlmcllkgemaaShow
namespace Go.Proofs.Ytdgmlmcllkgemaa
open Go.RowKit
set_option linter.unusedVariables false

theorem ten_limb (y j : Nat) : (y / 4294967296 ^ (j + 1) % 10 * 4294967296 + dg (y : Int) j) / 10 = dg ((y / 10 : Nat) : Int) j ∧ (y / 4294967296 ^ (j + 1) % 10 * 4294967296 + dg (y : Int) j) % 10 = y / 4294967296 ^ j % 10 := by
  have e1 : y / 4294967296 ^ (j + 1) = y / 4294967296 ^ j / 4294967296 := by rw [Nat.pow_succ, Nat.div_div_eq_div_mul]
  have e2 : dg ((y / 10 : Nat) : Int) j = y / 4294967296 ^ j / 10 % 4294967296 := by
    rw [dg_nat, Nat.div_div_eq_div_mul, Nat.mul_comm, ← Nat.div_div_eq_div_mul]
  rw [e1, e2, dg_nat]
  omega
theorem digit_slice (r : Nat) (h : r < 10) : (⟨#[48, 49, 50, 51, 52, 53, 54, 55, 56, 57]⟩ : ByteArray).extract r (r + 1) = ⟨[dgt r].toArray⟩ := by
  have : r = 0 ∨ r = 1 ∨ r = 2 ∨ r = 3 ∨ r = 4 ∨ r = 5 ∨ r = 6 ∨ r = 7 ∨ r = 8 ∨ r = 9 := by omega
  rcases this with rfl | rfl | rfl | rfl | rfl | rfl | rfl | rfl | rfl | rfl <;> rfl
set_option maxHeartbeats 2000000 in
theorem rText_yes (v : Value) (x : Nat) (w : World) (h : Nu w v x) (hx : nl x ≤ 64) :
    AnsE Try.prog 15 #[v] w (str (dec x)) := by
  have HU := Lib.hid h
  have HV := Lib.hid (rvalid_lv v (nl x) x w h.1 (lt_nl x))
  have hk : okB (nl x) x = true := by rw [okB_nl]; simp [hx]
  rw [hk] at HV
  obtain ⟨oa, cap, rfl, -, -, -⟩ := h.1
  rcases Nat.eq_zero_or_pos x with rfl | hx0
  · rw [nl_zero] at HV ⊢
    clear hk h hx
    go_enter Try.func15, Try.ntmps15
    go_wp2_with (go_at_call 11; refine HV.out.mono ?_; rintro e w' ⟨rfl, rfl⟩)
    have hd0 : dec 0 = [48] := by
      have h1 : numOf [48] = 0 := by decide
      have h2 := dec_numOf (l := [48]) (by decide)
      rwa [h1] at h2
    go_ret
    exact ⟨by rw [hd0]; rfl, On.refl _⟩
  · have hnx : (((nl x : Nat) : Int) == 0) = false := by have := nl_pos hx0; simp; omega
    have HND : Hid (dec x = (lo (ndz x) x).reverse) := by
      have := ndz_pos hx0
      unfold Hid dec nd
      rw [show max 1 (ndz x) = ndz x by omega]
    have HNX : Hid (∀ a, a ≤ x → nl a ≤ 64) := fun a h => Nat.le_trans (nl_mono h) hx
    clear hk h hx
    go_enter Try.func15, Try.ntmps15
    go_wp2_with (go_at_call 11; refine HV.out.mono ?_; rintro e w' ⟨rfl, rfl⟩)
    clear hnx
    go_loopw [0, 3] (fun v0 vs wr => ∃ (k y : Nat) (o : Option Addr) (c : Nat), v0 = .slice o (nl y) c ∧ vs = str ((lo k x).reverse) ∧ k ≤ 10000 ∧ Hid (y = x / 10 ^ k ∧ k ≤ ndz x ∧ On w wr ∧ Nu wr (.slice o (nl y) c) y)) (fun v0 _ wr => natOf wr v0)
    case atStart => exact ⟨0, x, oa, cap, rfl, rfl, by omega, by simp, Nat.zero_le _, On.refl w, HU.out⟩
    case round =>
      rename World => wr
      obtain ⟨k, y, o, c, rfl, rfl, hk10, HI⟩ := hrel
      have HM := Lib.hid (natOf_nv HI.out.2.2.2.1)
      rcases Nat.eq_zero_or_pos y with hy0 | hy0
      · have HE : Hid (dec x = (lo k x).reverse) := by
          have h1 := HI.out.1; have h2 := HI.out.2.1
          have h3 : x < 10 ^ k := by
            rcases Nat.lt_or_ge x (10 ^ k) with h | h
            · exact h
            · have := Nat.div_pos h (tp_pos k); omega
          have h4 := (ndz_le x k).2 h3
          unfold Hid; rw [HND.out, show ndz x = k by omega]
        have hz : nl y = 0 := by rw [hy0, nl_zero]
        have HON := Lib.hid HI.out.2.2.1
        rw [hz]
        clear hy0 hz HI HM
        go_wp2
        go_ret
        exact ⟨by rw [HE.out]; rfl, HON.out⟩
      · have hyp : 0 < nl y := nl_pos hy0
        have hyx : y ≤ x := by rw [HI.out.1]; exact Nat.div_le_self _ _
        have hny := HNX.out y hyx
        have hmk := make_runU (nl y) (by omega) wr
        have HMK := Lib.hid (made_lb wr (nl y))
        have HY0 := Lib.hid hy0
        have HTL := Lib.hid (ten_limb y)
        have HYL := Lib.hid (lt_nl y)
        have HR := Lib.hid HI.out.2.2.2
        have HON := Lib.hid HI.out.2.2.1
        have HYE := Lib.hid HI.out.1
        have hkn : k < ndz x := by
          rcases Nat.lt_or_ge k (ndz x) with h | h
          · exact h
          · have h1 := (ndz_le x k).1 h
            have h2 := HI.out.1
            rw [Nat.div_eq_of_lt h1] at h2; omega
        have HKN := Lib.hid hkn
        have hnd : ndz x ≤ 700 := by
          have h1 := (dec_len x (HNX.out x (Nat.le_refl _))).1
          rw [HND.out, List.length_reverse, lo_len] at h1
          exact h1
        clear hy0 hyx HI
        generalize hnl : nl y = m at *
        have HNL := Lib.hid hnl
        clear hnl
        obtain ⟨w0, hw0⟩ : ∃ w0, w0 = wr.alloc (.cells (madeCells #[.int .u32 0] m) 54) := ⟨_, rfl⟩
        have HO0 : Hid (On wr w0) := by unfold Hid; rw [hw0]; exact (On.refl wr).alloc _
        obtain ⟨B, hB⟩ : ∃ B, B = wr.heap.size := ⟨_, rfl⟩
        rw [← hw0, ← hB] at hmk HMK
        have HBE := Lib.hid hB
        have HT0 : Hid (y / 4294967296 ^ m % 10 = 0) := by unfold Hid; rw [Nat.div_eq_of_lt HYL.out]
        clear hw0 hB
        go_wp2_with fail
        go_loopw [5, 6] (fun vt vi wq => ∃ (j : Nat), j ≤ m ∧ vi = .int .i64 ((j : Int) - 1) ∧ vt = .int .u64 ((y / 4294967296 ^ j % 10 : Nat) : Int) ∧ Hid (On wr wq ∧ Lb B wq m (fun t => if j ≤ t then dg ((y / 10 : Nat) : Int) t else 0))) (fun _ vi _ => (intOf vi + 1).toNat)
        case atStart => exact ⟨m, Nat.le_refl _, rfl, by rw [HT0.out]; rfl, HO0.out, HMK.out.eq fun j hj => by rw [if_neg (by omega)]⟩
        case round =>
          rename World => wq
          obtain ⟨j, hj, rfl, rfl, HJ⟩ := hrel
          cases j with
          | zero =>
            have HV2 := Lib.hid (HJ.out.2.lv (X := ((y / 10 : Nat) : Int)) (by omega) fun t ht => by rw [if_pos (Nat.zero_le _)])
            have HO := Lib.hid (HON.out.trans HJ.out.1)
            have HLT : Hid (y / 10 < 4294967296 ^ m) := Nat.lt_of_le_of_lt (Nat.div_le_self _ _) HYL.out
            obtain ⟨r, hr⟩ : ∃ r, r = y / 4294967296 ^ 0 % 10 := ⟨_, rfl⟩
            have hr2 : r = y % 10 := by rw [hr]; simp
            have hrb : r < 10 := by omega
            rw [← hr]
            have hSL := digit_slice r hrb
            have HDG : Hid (dgt r = dgt (x / 10 ^ k)) := by
              unfold Hid dgt; rw [hr2, ← HYE.out, Nat.mod_mod]
            have HYN : Hid (y / 10 = x / 10 ^ (k + 1)) := by unfold Hid; rw [HYE.out, Nat.div_div_eq_div_mul, Nat.pow_succ]
            clear hr hr2 HJ
            have hw1 : IntKind.u64.wrap ((r : Int) + 1) = (r : Int) + 1 := IntWalk.u64_in _ (by omega)
            have hrun : ∀ W : World, (Instr.slice 9 (.string ⟨#[48, 49, 50, 51, 52, 53, 54, 55, 56, 57]⟩) (some (.int .u64 (r : Int))) (some (.int .u64 ((r : Int) + 1))) none).run Try.prog W = .ok (.string ⟨[dgt r].toArray⟩) W := fun W => by
              have h1 := run_slice_string (P := Try.prog) (w := W) 9 ⟨#[48, 49, 50, 51, 52, 53, 54, 55, 56, 57]⟩ .u64 .u64 (r : Int) ((r : Int) + 1) Try.underlying9 (by omega) (by omega) (by show (r : Int) + 1 ≤ ((10 : Nat) : Int); omega)
              rw [h1, show ((r : Int)).toNat = r by omega, show ((r : Int) + 1).toNat = r + 1 by omega, hSL]
            have hcat : (⟨[dgt r].toArray⟩ : ByteArray) ++ ⟨((lo k x).reverse).toArray⟩ = ⟨((lo (k + 1) x).reverse).toArray⟩ := by
              rw [cat_str, lo_succ, List.reverse_append, List.reverse_singleton, HDG.out]
            unfold str
            have hll : (lo k x).length = k := lo_len k x
            clear hSL
            go_wp2_with fail
            refine (rtrim_any _ m (y / 10) wq HV2.out (Zc.some _ _ _) HLT.out (by omega)).mono ?_
            rintro e w6 ⟨⟨u, rfl, hu⟩, hO6⟩
            have hu := hu.1
            have HM6 := Lib.hid (natOf_nv hu.1)
            obtain ⟨o6, c6, rfl, -, -, -⟩ := id hu.1
            have HN6 : Hid (y / 10 = x / 10 ^ (k + 1) ∧ k + 1 ≤ ndz x ∧ On w w6 ∧ Nu w6 (.slice o6 (nl (y / 10)) c6) (y / 10)) := ⟨HYN.out, HKN.out, HO.out.trans hO6, hu⟩
            clear hu hO6
            go_wp2
            go_roundw
            case rel => exact ⟨k + 1, y / 10, o6, c6, rfl, rfl, by have := HKN.out; omega, HN6.out⟩
            case measure => rw [HM6.out]; have h : natOf wr (.slice o m c) = y := HM.out; rw [h]; have := HY0.out; omega
          | succ j =>
            have hji : ((j + 1 : Nat) : Int) - 1 = (j : Int) := by omega
            obtain ⟨o', c', he, -, -, hRD⟩ := HR.out.1.on HJ.out.1
            simp only [Value.slice.injEq] at he
            obtain ⟨rfl, hnm, rfl⟩ := he
            obtain ⟨b, off, rfl, hc⟩ := hRD j (by omega)
            have hco : wq.cell? ⟨B, j, none⟩ = some (.int .u32 0) := (HJ.out.2.2.1 j (by omega)).trans (by
              show some (Value.int .u32 ((if j + 1 ≤ j then dg ((y / 10 : Nat) : Int) j else 0 : Nat) : Int)) = _
              rw [if_neg (by omega)]; rfl)
            have hfo := HJ.out.2.2.2 j
            have hd := dg_lt (y : Int) j
            obtain ⟨t1, t2⟩ := HTL.out j
            have hzb := dg_lt ((y / 10 : Nat) : Int) j
            have HN : Hid (On wr (wq.setCell ⟨B, j, none⟩ (.int .u32 ((dg ((y / 10 : Nat) : Int) j : Nat) : Int))) ∧ Lb B (wq.setCell ⟨B, j, none⟩ (.int .u32 ((dg ((y / 10 : Nat) : Int) j : Nat) : Int))) m (fun t => if j ≤ t then dg ((y / 10 : Nat) : Int) t else 0)) :=
              ⟨HJ.out.1.setCell (by show wr.heap.size ≤ B; rw [HBE.out]; exact Nat.le_refl _) _, HJ.out.2.set j (by omega) _ (by rw [if_pos (Nat.le_refl _)]) fun t ht e => by
                by_cases h : j + 1 ≤ t
                · rw [if_pos h, if_pos (by omega)]
                · rw [if_neg h, if_neg (by omega)]⟩
            have HT2 : Hid (y / 4294967296 ^ j % 10 = (y / 4294967296 ^ (j + 1) % 10 * 4294967296 + dg (y : Int) j) % 10) := t2.symm
            have hrs : y / 4294967296 ^ (j + 1) % 10 < 10 := Nat.mod_lt _ (by decide)
            clear hRD hnm HJ t2
            generalize dg ((y / 10 : Nat) : Int) j = zz at *
            generalize hde : dg (y : Int) j = d at *
            have HDE := Lib.hid hde; clear hde
            generalize y / 4294967296 ^ (j + 1) % 10 = rs at *
            have hw1 : IntKind.u64.wrap ((rs : Int) * 4294967296) = (rs : Int) * 4294967296 := IntWalk.u64_in _ (by omega)
            obtain ⟨s, hs⟩ : ∃ s, s = rs * 4294967296 + d := ⟨_, rfl⟩
            rw [← hs] at t1 HT2
            have hse : (rs : Int) * 4294967296 + (d : Int) = (s : Int) := by omega
            have hw2 : IntKind.u64.wrap (s : Int) = (s : Int) := IntWalk.u64_in _ (by omega)
            have hwd : IntKind.u64.wrap (d : Int) = (d : Int) := IntWalk.u64_in _ (by omega)
            have hz : (s : Int) / 10 = (zz : Int) := by omega
            have hw3 : IntKind.u32.wrap (zz : Int) = (zz : Int) := IntWalk.u32_in _ (by omega)
            have hjm : (j : Int) < (m : Int) := by omega
            clear t1 hs
            rw [hji]
            go_wp2
            go_roundw
            case rel => exact ⟨j, by omega, by go_num, by rw [HT2.out]; exact val_int (by omega), HN.out⟩
            case measure => simp [intOf]
theorem rText_bad (v : Value) (m x : Nat) (w : World) (h : Lv w v m (x : Int)) (hx : x < 4294967296 ^ m) (hk : okB m x = false) :
    AnsE Try.prog 15 #[v] w (str []) := by
  have HV := Lib.hid (rvalid_lv v m x w h hx)
  rw [hk] at HV
  obtain ⟨oa, cap, rfl, -, -, -⟩ := h
  clear hk hx
  go_enter Try.func15, Try.ntmps15
  go_wp2_with (go_at_call 11; refine HV.out.mono ?_; rintro e w' ⟨rfl, rfl⟩)
  go_ret
  exact ⟨rfl, On.refl _⟩
theorem text_pair (m x : Nat) (hx : x < 4294967296 ^ m) : ∃ l, (∀ v w, Lz w v m x → AnsE Try.prog 14 #[v] w (str l)) ∧ ∀ v w, Lz w v m x → AnsE Try.prog 15 #[v] w (str l) := by
  cases hk : okB m x
  · exact ⟨[], fun v w h => (Text_bad v m x w h.1 hx hk).mono fun e w' ⟨h1, h2⟩ => ⟨h1, h2 ▸ On.refl w⟩, fun v w h => rText_bad v m x w h.1 hx hk⟩
  · obtain ⟨e1, b1⟩ := okB_true hk
    exact ⟨_, fun v w h => Text_yes v x w (h.nu e1).1 b1, fun v w h => rText_yes v x w (h.nu e1) b1⟩
theorem valid_both (m x : Nat) (hx : x < 4294967296 ^ m) : ∃ b, (∀ v w, Lz w v m x → AnsE Try.prog 10 #[v] w (.bool b)) ∧ ∀ v w, Lz w v m x → AnsE Try.prog 11 #[v] w (.bool b) :=
  ⟨_, fun v w h => (valid_lv v m x w h.1 hx).mono fun e w' ⟨h1, h2⟩ => ⟨h1, h2 ▸ On.refl w⟩, fun v w h => (rvalid_lv v m x w h.1 hx).mono fun e w' ⟨h1, h2⟩ => ⟨h1, h2 ▸ On.refl w⟩⟩
theorem same_nv (va vb : Value) (N : Nat) (w : World) (ha : Nv w va N) (hb : Nv w vb N) : AnsE Try.prog 18 #[va, vb] w (.bool true) :=
  rsame_any va vb (nl N) (N : Int) w ha hb
theorem same_lz (va vb : Value) (m x : Nat) (w : World) (ha : Lz w va m x) (hb : Lz w vb m x) : AnsE Try.prog 18 #[va, vb] w (.bool true) :=
  rsame_any va vb m (x : Int) w ha.1 hb.1
theorem Rd.cut {w : World} {oa : Option Addr} {k m x : Nat} (h : Rd w oa m (x : Int)) (hk : k ≤ m) : Rd w oa k ((x % 4294967296 ^ k : Nat) : Int) := fun j hj => by
  obtain ⟨b, off, h1, h2⟩ := h j (by omega)
  exact ⟨b, off, h1, by rw [Int.natCast_emod, pw_cast, dg_mod _ hj]; exact h2⟩
/-- own of the laws: the first 70 limbs. -/
theorem rown_any (v : Value) (m x : Nat) (w : World) (h : Av w v m x) :
    Calls Try.prog 7 #[v] w fun e w' => (∃ u, e = .returned u ∧ Lz w' u (min m 70) (x % 4294967296 ^ min m 70)) ∧ On w w' := by
  obtain ⟨oa, cap, rfl, hm, hcap, hR, hx, hnil⟩ := h
  obtain ⟨k, hk⟩ : ∃ k, k = min m 70 := ⟨_, rfl⟩
  obtain ⟨v', w1, hrun, hv, hO, hz, -⟩ := append_limbsz w 23 23 Try.underlying23 Try.underlying23 oa k cap _ (hR.cut (by omega)) (by omega)
  rw [← hk]
  have hk0 : min ((m : Nat) : Int) 70 = (k : Int) := by omega
  have hkc : k ≤ cap := by omega
  have HRUN := Lib.hid hrun; have HV : Hid (Lz w1 v' k (x % 4294967296 ^ k)) := ⟨hv, hz⟩; have HO := Lib.hid hO
  clear hrun hv hO hz hR hx hk
  obtain ⟨xk, hxk⟩ : ∃ xk, xk = x % 4294967296 ^ k := ⟨_, rfl⟩
  rw [← hxk] at HV ⊢
  clear hxk
  rcases oa with _ | ad
  · have hc0 := hnil rfl
    subst hc0
    obtain rfl : k = 0 := by omega
    clear hnil
    go_enter Try.func7, Try.ntmps7
    go_wp2_with (at_builtin; refine wp_append2 rfl (.tmp 4) (.tmp 9) _ _ rfl _ _ v' rfl rfl HRUN.out ?_)
    go_wp2
    go_ret
    exact ⟨⟨_, rfl, HV.out⟩, HO.out⟩
  · clear hnil
    go_enter Try.func7, Try.ntmps7
    go_wp2_with (at_builtin; refine wp_append2 rfl (.tmp 4) (.tmp 9) _ _ rfl _ _ v' rfl rfl HRUN.out ?_)
    go_wp2
    go_ret
    exact ⟨⟨_, rfl, HV.out⟩, HO.out⟩
end Go.Proofs.Ytdgmlmcllkgemaa
