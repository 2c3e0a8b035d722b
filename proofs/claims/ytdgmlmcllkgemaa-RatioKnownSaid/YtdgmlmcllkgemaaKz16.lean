/- The document's own Value and Text, and each beside the program's: the same answers. -/
import Derived.Test.YtdgmlmcllkgemaaKz14
import Derived.Test.YtdgmlmcllkgemaaKz15
import Derived.Test.YtdgmlmcllkgemaaKz06
import Derived.Test.YtdgmlmcllkgemaaKz08
set_option linter.unusedSimpArgs false
set_option linter.unusedVariables false
/- The document's own Value and Text, and each beside the program's: the same answers. -/
namespace Go.Proofs.Ytdgmlmcllkgemaa
open Go.RowKit
set_option linter.unusedVariables false

theorem pvalue_no (v : Value) (m x : Nat) (w : World) (h : Lv w v m (x : Int)) (hx : x < 4294967296 ^ m) (hk : okB m x = false ∨ 2 < m) :
    AnsE Try.prog 8 #[v] w (.tuple #[.int .u64 0, .bool false]) := by
  have HV := Lib.hid (valid_lv v m x w h hx)
  obtain ⟨oa, cap, rfl, -, -, -⟩ := h
  go_enter Try.func8, Try.ntmps8
  cases hb : okB m x
  · rw [hb] at HV
    clear hb hk hx
    go_wp2_with (go_at_call 10; refine HV.out.mono ?_; rintro e w' ⟨rfl, rfl⟩)
    go_ret2
    exact ⟨rfl, On.refl _⟩
  · have hm : 2 < m := by rcases hk with h | h; rw [hb] at h; cases h; exact h
    have hm2 : (2 : Int) < (m : Int) := by omega
    rw [hb] at HV
    clear hb hk hx
    go_wp2_with (go_at_call 10; refine HV.out.mono ?_; rintro e w' ⟨rfl, rfl⟩)
    go_ret2
    exact ⟨rfl, On.refl _⟩
theorem pvalue_yes (v : Value) (m x : Nat) (w : World) (h : Lv w v m (x : Int)) (hx : x < 4294967296 ^ m) (hk : okB m x = true) (hm : m ≤ 2) :
    AnsE Try.prog 8 #[v] w (.tuple #[.int .u64 (x : Int), .bool true]) := by
  have HV := Lib.hid (valid_lv v m x w h hx)
  obtain ⟨oa, cap, rfl, -, -, hR⟩ := h
  have HN := Lib.hid (number_any oa m cap x w hm hR hx)
  rw [hk] at HV
  have hm2 : ¬ ((2 : Int) < (m : Int)) := by omega
  clear hk hx hR
  go_enter Try.func8, Try.ntmps8
  go_wp2_with (first
    | (go_at_call 10; refine HV.out.mono ?_; rintro e w' ⟨rfl, rfl⟩)
    | (go_at_call 51; refine HN.out.mono ?_; rintro e w' ⟨rfl, rfl⟩))
  go_ret2
  exact ⟨rfl, On.refl _⟩
theorem rvalue_no (v : Value) (m x : Nat) (w : World) (h : Lv w v m (x : Int)) (hx : x < 4294967296 ^ m) (hk : okB m x = false ∨ 2 < m) :
    AnsE Try.prog 9 #[v] w (.tuple #[.int .u64 0, .bool false]) := by
  have HV := Lib.hid (rvalid_lv v m x w h hx)
  obtain ⟨oa, cap, rfl, -, -, -⟩ := h
  go_enter Try.func9, Try.ntmps9
  cases hb : okB m x
  · rw [hb] at HV
    clear hb hk hx
    go_wp2_with (go_at_call 11; refine HV.out.mono ?_; rintro e w' ⟨rfl, rfl⟩)
    go_ret2
    exact ⟨rfl, On.refl _⟩
  · have hm : 2 < m := by rcases hk with h | h; rw [hb] at h; cases h; exact h
    have hm2 : (2 : Int) < (m : Int) := by omega
    rw [hb] at HV
    clear hb hk hx
    go_wp2_with (go_at_call 11; refine HV.out.mono ?_; rintro e w' ⟨rfl, rfl⟩)
    go_ret2
    exact ⟨rfl, On.refl _⟩
theorem rvalue_yes (v : Value) (m x : Nat) (w : World) (h : Lv w v m (x : Int)) (hx : x < 4294967296 ^ m) (hk : okB m x = true) (hm : m ≤ 2) :
    AnsE Try.prog 9 #[v] w (.tuple #[.int .u64 (x : Int), .bool true]) := by
  have HV := Lib.hid (rvalid_lv v m x w h hx)
  obtain ⟨oa, cap, rfl, -, -, hR⟩ := h
  rw [hk] at HV
  have HR := Lib.hid hR
  have hm2 : ¬ ((2 : Int) < (m : Int)) := by omega
  have hxb : x < 18446744073709551616 := by
    have h2 : (4294967296 : Nat) ^ m ≤ 4294967296 ^ 2 := Nat.pow_le_pow_right (by decide) hm
    have h3 : (4294967296 : Nat) ^ 2 = 18446744073709551616 := by decide
    omega
  have H0 : Hid (x / 4294967296 ^ m = 0) := Nat.div_eq_of_lt hx
  clear hk hx hR
  go_enter Try.func9, Try.ntmps9
  go_wp2_with (go_at_call 11; refine HV.out.mono ?_; rintro e w' ⟨rfl, rfl⟩)
  go_loop [4, 5] (fun vv vi => ∃ (k : Nat), k ≤ m ∧ vi = .int .i64 ((k : Int) - 1) ∧ vv = .int .u64 ((x / 4294967296 ^ k : Nat) : Int)) (fun _ vi => (intOf vi + 1).toNat)
  case atStart => exact ⟨m, Nat.le_refl _, rfl, by rw [H0.out]; rfl⟩
  case round =>
    obtain ⟨k, hk, rfl, rfl⟩ := hrel
    cases k with
    | zero =>
      go_wp2
      go_ret2
      exact ⟨rfl, On.refl _⟩
    | succ k =>
      have hki : ((k + 1 : Nat) : Int) - 1 = (k : Int) := by omega
      obtain ⟨b, off, rfl, hc⟩ := HR.out k (by omega)
      have hd := dg_lt (x : Int) k
      have hE : x / 4294967296 ^ (k + 1) * 4294967296 + dg (x : Int) k = x / 4294967296 ^ k := by
        rw [dg_nat, Nat.pow_succ, ← Nat.div_div_eq_div_mul, Nat.mul_comm]; exact Nat.div_add_mod _ _
      have hle : x / 4294967296 ^ k ≤ x := Nat.div_le_self _ _
      have HE := Lib.hid hE
      generalize hq : x / 4294967296 ^ k = q at *
      have HQ := Lib.hid hq; clear hq
      generalize x / 4294967296 ^ (k + 1) = p at *
      generalize dg (x : Int) k = d at *
      have hw1 : IntKind.u64.wrap ((p : Int) * 4294967296) = (p : Int) * 4294967296 := IntWalk.u64_in _ (by omega)
      have hs : (p : Int) * 4294967296 + (d : Int) = (q : Int) := by omega
      have hw2 : IntKind.u64.wrap (q : Int) = (q : Int) := IntWalk.u64_in _ (by omega)
      have hwd : IntKind.u64.wrap (d : Int) = (d : Int) := IntWalk.u64_in _ (by omega)
      have hkm : (k : Int) < (m : Int) := by omega
      clear hE hle
      rw [hki]
      go_wp2
      go_round
      case rel => exact ⟨k, by omega, by go_num, by rw [HQ.out]⟩
      case measure => simp [intOf]
theorem value_pair (m x : Nat) (hx : x < 4294967296 ^ m) : ∃ r, (∀ v w, Lz w v m x → AnsE Try.prog 8 #[v] w r) ∧ (∀ v w, Lz w v m x → AnsE Try.prog 9 #[v] w r) ∧ ∃ z b, r = .tuple #[.int .u64 z, .bool b] := by
  by_cases h : okB m x = true ∧ m ≤ 2
  · exact ⟨_, fun v w hv => pvalue_yes v m x w hv.1 hx h.1 h.2, fun v w hv => rvalue_yes v m x w hv.1 hx h.1 h.2, _, _, rfl⟩
  · have h2 : okB m x = false ∨ 2 < m := by
      cases hb : okB m x
      · exact .inl rfl
      · exact .inr (Nat.lt_of_not_le fun hm => h ⟨hb, hm⟩)
    exact ⟨_, fun v w hv => pvalue_no v m x w hv.1 hx h2, fun v w hv => rvalue_no v m x w hv.1 hx h2, _, _, rfl⟩
end Go.Proofs.Ytdgmlmcllkgemaa

/- The document's own Text, beside the program's: the same answers. -/
namespace Go.Proofs.Ytdgmlmcllkgemaa
open Go.RowKit
set_option linter.unusedVariables false

theorem ten_limb (y j : Nat) : (y / 4294967296 ^ (j + 1) % 10 * 4294967296 + dg (y : Int) j) / 10 = dg ((y / 10 : Nat) : Int) j ∧ (y / 4294967296 ^ (j + 1) % 10 * 4294967296 + dg (y : Int) j) % 10 = y / 4294967296 ^ j % 10 := by
  have e1 : y / 4294967296 ^ (j + 1) = y / 4294967296 ^ j / 4294967296 := by rw [Nat.pow_succ, Nat.div_div_eq_div_mul]
  have e2 : dg ((y / 10 : Nat) : Int) j = y / 4294967296 ^ j / 10 % 4294967296 := by
    rw [dg_nat, Nat.div_div_eq_div_mul, Nat.mul_comm, ← Nat.div_div_eq_div_mul]
  rw [e1, e2, dg_nat]
  omega
theorem digit_slice (r : Nat) (h : r < 10) : (⟨#[48, 49, 50, 51, 52, 53, 54, 55, 56, 57]⟩ : ByteArray).extract r (r + 1) = ⟨[dgt r].toArray⟩ := by
  have : r = 0 ∨ r = 1 ∨ r = 2 ∨ r = 3 ∨ r = 4 ∨ r = 5 ∨ r = 6 ∨ r = 7 ∨ r = 8 ∨ r = 9 := by omega
  rcases this with rfl | rfl | rfl | rfl | rfl | rfl | rfl | rfl | rfl | rfl <;> rfl
set_option maxHeartbeats 2000000 in
theorem rText_yes (v : Value) (x : Nat) (w : World) (h : Nu w v x) (hx : nl x ≤ 64) :
    AnsE Try.prog 15 #[v] w (str (dec x)) := by
  have HU := Lib.hid h
  have HV := Lib.hid (rvalid_lv v (nl x) x w h.1 (lt_nl x))
  have hk : okB (nl x) x = true := by rw [okB_nl]; simp [hx]
  rw [hk] at HV
  obtain ⟨oa, cap, rfl, -, -, -⟩ := h.1
  rcases Nat.eq_zero_or_pos x with rfl | hx0
  · rw [nl_zero] at HV ⊢
    clear hk h hx
    go_enter Try.func15, Try.ntmps15
    go_wp2_with (go_at_call 11; refine HV.out.mono ?_; rintro e w' ⟨rfl, rfl⟩)
    have hd0 : dec 0 = [48] := by
      have h1 : numOf [48] = 0 := by decide
      have h2 := dec_numOf (l := [48]) (by decide)
      rwa [h1] at h2
    go_ret
    exact ⟨by rw [hd0]; rfl, On.refl _⟩
  · have hnx : (((nl x : Nat) : Int) == 0) = false := by have := nl_pos hx0; simp; omega
    have HND : Hid (dec x = (lo (ndz x) x).reverse) := by
      have := ndz_pos hx0
      unfold Hid dec nd
      rw [show max 1 (ndz x) = ndz x by omega]
    have HNX : Hid (∀ a, a ≤ x → nl a ≤ 64) := fun a h => Nat.le_trans (nl_mono h) hx
    clear hk h hx
    go_enter Try.func15, Try.ntmps15
    go_wp2_with (go_at_call 11; refine HV.out.mono ?_; rintro e w' ⟨rfl, rfl⟩)
    clear hnx
    go_loopw [0, 3] (fun v0 vs wr => ∃ (k y : Nat) (o : Option Addr) (c : Nat), v0 = .slice o (nl y) c ∧ vs = str ((lo k x).reverse) ∧ k ≤ 10000 ∧ Hid (y = x / 10 ^ k ∧ k ≤ ndz x ∧ On w wr ∧ Nu wr (.slice o (nl y) c) y)) (fun v0 _ wr => natOf wr v0)
    case atStart => exact ⟨0, x, oa, cap, rfl, rfl, by omega, by simp, Nat.zero_le _, On.refl w, HU.out⟩
    case round =>
      rename World => wr
      obtain ⟨k, y, o, c, rfl, rfl, hk10, HI⟩ := hrel
      have HM := Lib.hid (natOf_nv HI.out.2.2.2.1)
      rcases Nat.eq_zero_or_pos y with hy0 | hy0
      · have HE : Hid (dec x = (lo k x).reverse) := by
          have h1 := HI.out.1; have h2 := HI.out.2.1
          have h3 : x < 10 ^ k := by
            rcases Nat.lt_or_ge x (10 ^ k) with h | h
            · exact h
            · have := Nat.div_pos h (tp_pos k); omega
          have h4 := (ndz_le x k).2 h3
          unfold Hid; rw [HND.out, show ndz x = k by omega]
        have hz : nl y = 0 := by rw [hy0, nl_zero]
        have HON := Lib.hid HI.out.2.2.1
        rw [hz]
        clear hy0 hz HI HM
        go_wp2
        go_ret
        exact ⟨by rw [HE.out]; rfl, HON.out⟩
      · have hyp : 0 < nl y := nl_pos hy0
        have hyx : y ≤ x := by rw [HI.out.1]; exact Nat.div_le_self _ _
        have hny := HNX.out y hyx
        have hmk := make_runU (nl y) (by omega) wr
        have HMK := Lib.hid (made_lb wr (nl y))
        have HY0 := Lib.hid hy0
        have HTL := Lib.hid (ten_limb y)
        have HYL := Lib.hid (lt_nl y)
        have HR := Lib.hid HI.out.2.2.2
        have HON := Lib.hid HI.out.2.2.1
        have HYE := Lib.hid HI.out.1
        have hkn : k < ndz x := by
          rcases Nat.lt_or_ge k (ndz x) with h | h
          · exact h
          · have h1 := (ndz_le x k).1 h
            have h2 := HI.out.1
            rw [Nat.div_eq_of_lt h1] at h2; omega
        have HKN := Lib.hid hkn
        have hnd : ndz x ≤ 700 := by
          have h1 := (dec_len x (HNX.out x (Nat.le_refl _))).1
          rw [HND.out, List.length_reverse, lo_len] at h1
          exact h1
        clear hy0 hyx HI
        generalize hnl : nl y = m at *
        have HNL := Lib.hid hnl
        clear hnl
        obtain ⟨w0, hw0⟩ : ∃ w0, w0 = wr.alloc (.cells (madeCells #[.int .u32 0] m) 54) := ⟨_, rfl⟩
        have HO0 : Hid (On wr w0) := by unfold Hid; rw [hw0]; exact (On.refl wr).alloc _
        obtain ⟨B, hB⟩ : ∃ B, B = wr.heap.size := ⟨_, rfl⟩
        rw [← hw0, ← hB] at hmk HMK
        have HBE := Lib.hid hB
        have HT0 : Hid (y / 4294967296 ^ m % 10 = 0) := by unfold Hid; rw [Nat.div_eq_of_lt HYL.out]
        clear hw0 hB
        go_wp2_with fail
        go_loopw [5, 6] (fun vt vi wq => ∃ (j : Nat), j ≤ m ∧ vi = .int .i64 ((j : Int) - 1) ∧ vt = .int .u64 ((y / 4294967296 ^ j % 10 : Nat) : Int) ∧ Hid (On wr wq ∧ Lb B wq m (fun t => if j ≤ t then dg ((y / 10 : Nat) : Int) t else 0))) (fun _ vi _ => (intOf vi + 1).toNat)
        case atStart => exact ⟨m, Nat.le_refl _, rfl, by rw [HT0.out]; rfl, HO0.out, HMK.out.eq fun j hj => by rw [if_neg (by omega)]⟩
        case round =>
          rename World => wq
          obtain ⟨j, hj, rfl, rfl, HJ⟩ := hrel
          cases j with
          | zero =>
            have HV2 := Lib.hid (HJ.out.2.lv (X := ((y / 10 : Nat) : Int)) (by omega) fun t ht => by rw [if_pos (Nat.zero_le _)])
            have HO := Lib.hid (HON.out.trans HJ.out.1)
            have HLT : Hid (y / 10 < 4294967296 ^ m) := Nat.lt_of_le_of_lt (Nat.div_le_self _ _) HYL.out
            obtain ⟨r, hr⟩ : ∃ r, r = y / 4294967296 ^ 0 % 10 := ⟨_, rfl⟩
            have hr2 : r = y % 10 := by rw [hr]; simp
            have hrb : r < 10 := by omega
            rw [← hr]
            have hSL := digit_slice r hrb
            have HDG : Hid (dgt r = dgt (x / 10 ^ k)) := by
              unfold Hid dgt; rw [hr2, ← HYE.out, Nat.mod_mod]
            have HYN : Hid (y / 10 = x / 10 ^ (k + 1)) := by unfold Hid; rw [HYE.out, Nat.div_div_eq_div_mul, Nat.pow_succ]
            clear hr hr2 HJ
            have hw1 : IntKind.u64.wrap ((r : Int) + 1) = (r : Int) + 1 := IntWalk.u64_in _ (by omega)
            have hrun : ∀ W : World, (Instr.slice 9 (.string ⟨#[48, 49, 50, 51, 52, 53, 54, 55, 56, 57]⟩) (some (.int .u64 (r : Int))) (some (.int .u64 ((r : Int) + 1))) none).run Try.prog W = .ok (.string ⟨[dgt r].toArray⟩) W := fun W => by
              have h1 := run_slice_string (P := Try.prog) (w := W) 9 ⟨#[48, 49, 50, 51, 52, 53, 54, 55, 56, 57]⟩ .u64 .u64 (r : Int) ((r : Int) + 1) Try.underlying9 (by omega) (by omega) (by show (r : Int) + 1 ≤ ((10 : Nat) : Int); omega)
              rw [h1, show ((r : Int)).toNat = r by omega, show ((r : Int) + 1).toNat = r + 1 by omega, hSL]
            have hcat : (⟨[dgt r].toArray⟩ : ByteArray) ++ ⟨((lo k x).reverse).toArray⟩ = ⟨((lo (k + 1) x).reverse).toArray⟩ := by
              rw [cat_str, lo_succ, List.reverse_append, List.reverse_singleton, HDG.out]
            unfold str
            have hll : (lo k x).length = k := lo_len k x
            clear hSL
            go_wp2_with fail
            refine (rtrim_any _ m (y / 10) wq HV2.out (Zc.some _ _ _) HLT.out (by omega)).mono ?_
            rintro e w6 ⟨⟨u, rfl, hu⟩, hO6⟩
            have hu := hu.1
            have HM6 := Lib.hid (natOf_nv hu.1)
            obtain ⟨o6, c6, rfl, -, -, -⟩ := id hu.1
            have HN6 : Hid (y / 10 = x / 10 ^ (k + 1) ∧ k + 1 ≤ ndz x ∧ On w w6 ∧ Nu w6 (.slice o6 (nl (y / 10)) c6) (y / 10)) := ⟨HYN.out, HKN.out, HO.out.trans hO6, hu⟩
            clear hu hO6
            go_wp2
            go_roundw
            case rel => exact ⟨k + 1, y / 10, o6, c6, rfl, rfl, by have := HKN.out; omega, HN6.out⟩
            case measure => rw [HM6.out]; have h : natOf wr (.slice o m c) = y := HM.out; rw [h]; have := HY0.out; omega
          | succ j =>
            have hji : ((j + 1 : Nat) : Int) - 1 = (j : Int) := by omega
            obtain ⟨o', c', he, -, -, hRD⟩ := HR.out.1.on HJ.out.1
            simp only [Value.slice.injEq] at he
            obtain ⟨rfl, hnm, rfl⟩ := he
            obtain ⟨b, off, rfl, hc⟩ := hRD j (by omega)
            have hco : wq.cell? ⟨B, j, none⟩ = some (.int .u32 0) := (HJ.out.2.2.1 j (by omega)).trans (by
              show some (Value.int .u32 ((if j + 1 ≤ j then dg ((y / 10 : Nat) : Int) j else 0 : Nat) : Int)) = _
              rw [if_neg (by omega)]; rfl)
            have hfo := HJ.out.2.2.2 j
            have hd := dg_lt (y : Int) j
            obtain ⟨t1, t2⟩ := HTL.out j
            have hzb := dg_lt ((y / 10 : Nat) : Int) j
            have HN : Hid (On wr (wq.setCell ⟨B, j, none⟩ (.int .u32 ((dg ((y / 10 : Nat) : Int) j : Nat) : Int))) ∧ Lb B (wq.setCell ⟨B, j, none⟩ (.int .u32 ((dg ((y / 10 : Nat) : Int) j : Nat) : Int))) m (fun t => if j ≤ t then dg ((y / 10 : Nat) : Int) t else 0)) :=
              ⟨HJ.out.1.setCell (by show wr.heap.size ≤ B; rw [HBE.out]; exact Nat.le_refl _) _, HJ.out.2.set j (by omega) _ (by rw [if_pos (Nat.le_refl _)]) fun t ht e => by
                by_cases h : j + 1 ≤ t
                · rw [if_pos h, if_pos (by omega)]
                · rw [if_neg h, if_neg (by omega)]⟩
            have HT2 : Hid (y / 4294967296 ^ j % 10 = (y / 4294967296 ^ (j + 1) % 10 * 4294967296 + dg (y : Int) j) % 10) := t2.symm
            have hrs : y / 4294967296 ^ (j + 1) % 10 < 10 := Nat.mod_lt _ (by decide)
            clear hRD hnm HJ t2
            generalize dg ((y / 10 : Nat) : Int) j = zz at *
            generalize hde : dg (y : Int) j = d at *
            have HDE := Lib.hid hde; clear hde
            generalize y / 4294967296 ^ (j + 1) % 10 = rs at *
            have hw1 : IntKind.u64.wrap ((rs : Int) * 4294967296) = (rs : Int) * 4294967296 := IntWalk.u64_in _ (by omega)
            obtain ⟨s, hs⟩ : ∃ s, s = rs * 4294967296 + d := ⟨_, rfl⟩
            rw [← hs] at t1 HT2
            have hse : (rs : Int) * 4294967296 + (d : Int) = (s : Int) := by omega
            have hw2 : IntKind.u64.wrap (s : Int) = (s : Int) := IntWalk.u64_in _ (by omega)
            have hwd : IntKind.u64.wrap (d : Int) = (d : Int) := IntWalk.u64_in _ (by omega)
            have hz : (s : Int) / 10 = (zz : Int) := by omega
            have hw3 : IntKind.u32.wrap (zz : Int) = (zz : Int) := IntWalk.u32_in _ (by omega)
            have hjm : (j : Int) < (m : Int) := by omega
            clear t1 hs
            rw [hji]
            go_wp2
            go_roundw
            case rel => exact ⟨j, by omega, by go_num, by rw [HT2.out]; exact val_int (by omega), HN.out⟩
            case measure => simp [intOf]
theorem rText_bad (v : Value) (m x : Nat) (w : World) (h : Lv w v m (x : Int)) (hx : x < 4294967296 ^ m) (hk : okB m x = false) :
    AnsE Try.prog 15 #[v] w (str []) := by
  have HV := Lib.hid (rvalid_lv v m x w h hx)
  rw [hk] at HV
  obtain ⟨oa, cap, rfl, -, -, -⟩ := h
  clear hk hx
  go_enter Try.func15, Try.ntmps15
  go_wp2_with (go_at_call 11; refine HV.out.mono ?_; rintro e w' ⟨rfl, rfl⟩)
  go_ret
  exact ⟨rfl, On.refl _⟩
theorem text_pair (m x : Nat) (hx : x < 4294967296 ^ m) : ∃ l, (∀ v w, Lz w v m x → AnsE Try.prog 14 #[v] w (str l)) ∧ ∀ v w, Lz w v m x → AnsE Try.prog 15 #[v] w (str l) := by
  cases hk : okB m x
  · exact ⟨[], fun v w h => (Text_bad v m x w h.1 hx hk).mono fun e w' ⟨h1, h2⟩ => ⟨h1, h2 ▸ On.refl w⟩, fun v w h => rText_bad v m x w h.1 hx hk⟩
  · obtain ⟨e1, b1⟩ := okB_true hk
    exact ⟨_, fun v w h => Text_yes v x w (h.nu e1).1 b1, fun v w h => rText_yes v x w (h.nu e1) b1⟩
theorem valid_both (m x : Nat) (hx : x < 4294967296 ^ m) : ∃ b, (∀ v w, Lz w v m x → AnsE Try.prog 10 #[v] w (.bool b)) ∧ ∀ v w, Lz w v m x → AnsE Try.prog 11 #[v] w (.bool b) :=
  ⟨_, fun v w h => (valid_lv v m x w h.1 hx).mono fun e w' ⟨h1, h2⟩ => ⟨h1, h2 ▸ On.refl w⟩, fun v w h => (rvalid_lv v m x w h.1 hx).mono fun e w' ⟨h1, h2⟩ => ⟨h1, h2 ▸ On.refl w⟩⟩
theorem same_nv (va vb : Value) (N : Nat) (w : World) (ha : Nv w va N) (hb : Nv w vb N) : AnsE Try.prog 18 #[va, vb] w (.bool true) :=
  rsame_any va vb (nl N) (N : Int) w ha hb
theorem same_lz (va vb : Value) (m x : Nat) (w : World) (ha : Lz w va m x) (hb : Lz w vb m x) : AnsE Try.prog 18 #[va, vb] w (.bool true) :=
  rsame_any va vb m (x : Int) w ha.1 hb.1
theorem Rd.cut {w : World} {oa : Option Addr} {k m x : Nat} (h : Rd w oa m (x : Int)) (hk : k ≤ m) : Rd w oa k ((x % 4294967296 ^ k : Nat) : Int) := fun j hj => by
  obtain ⟨b, off, h1, h2⟩ := h j (by omega)
  exact ⟨b, off, h1, by rw [Int.natCast_emod, pw_cast, dg_mod _ hj]; exact h2⟩
/-- own of the laws: the first 70 limbs. -/
theorem rown_any (v : Value) (m x : Nat) (w : World) (h : Av w v m x) :
    Calls Try.prog 7 #[v] w fun e w' => (∃ u, e = .returned u ∧ Lz w' u (min m 70) (x % 4294967296 ^ min m 70)) ∧ On w w' := by
  obtain ⟨oa, cap, rfl, hm, hcap, hR, hx, hnil⟩ := h
  obtain ⟨k, hk⟩ : ∃ k, k = min m 70 := ⟨_, rfl⟩
  obtain ⟨v', w1, hrun, hv, hO, hz, -⟩ := append_limbsz w 23 23 Try.underlying23 Try.underlying23 oa k cap _ (hR.cut (by omega)) (by omega)
  rw [← hk]
  have hk0 : min ((m : Nat) : Int) 70 = (k : Int) := by omega
  have hkc : k ≤ cap := by omega
  have HRUN := Lib.hid hrun; have HV : Hid (Lz w1 v' k (x % 4294967296 ^ k)) := ⟨hv, hz⟩; have HO := Lib.hid hO
  clear hrun hv hO hz hR hx hk
  obtain ⟨xk, hxk⟩ : ∃ xk, xk = x % 4294967296 ^ k := ⟨_, rfl⟩
  rw [← hxk] at HV ⊢
  clear hxk
  rcases oa with _ | ad
  · have hc0 := hnil rfl
    subst hc0
    obtain rfl : k = 0 := by omega
    clear hnil
    go_enter Try.func7, Try.ntmps7
    go_wp2_with (at_builtin; refine wp_append2 rfl (.tmp 4) (.tmp 9) _ _ rfl _ _ v' rfl rfl HRUN.out ?_)
    go_wp2
    go_ret
    exact ⟨⟨_, rfl, HV.out⟩, HO.out⟩
  · clear hnil
    go_enter Try.func7, Try.ntmps7
    go_wp2_with (at_builtin; refine wp_append2 rfl (.tmp 4) (.tmp 9) _ _ rfl _ _ v' rfl rfl HRUN.out ?_)
    go_wp2
    go_ret
    exact ⟨⟨_, rfl, HV.out⟩, HO.out⟩
end Go.Proofs.Ytdgmlmcllkgemaa

/- The document's own natural, Nat and Parse, beside the program's. -/
namespace Go.Proofs.Ytdgmlmcllkgemaa
open Go.RowKit
set_option linter.unusedVariables false

theorem rnatural_any (l : List UInt8) (w : World) (hl : l.length ≤ 9223372036854775807) :
    Calls Try.prog 71 #[str l] w fun e w' => e = .returned (.bool (textB l)) ∧ w = w' := by
  have hs : (⟨l.toArray⟩ : ByteArray).size = l.length := rfl
  unfold str
  go_enter Try.func71, Try.ntmps71
  go_hidden (go_wp2)
  go_loop [3] (fun vi => ∃ k : Nat, vi = .int .i64 k ∧ k ≤ l.length ∧ Hid ((l.take k).all digitB = true)) (fun vi => l.length - (intOf vi).toNat)
  case atStart => exact ⟨0, rfl, Nat.zero_le _, by unfold Hid; simp⟩
  case round =>
    obtain ⟨k, rfl, hk, HA⟩ := hrel
    by_cases hlt : k < l.length
    · obtain ⟨c, hc⟩ : ∃ c : Nat, (⟨l.toArray⟩ : ByteArray)[k].toNat = c := ⟨_, rfl⟩
      have HC : Hid (l[k].toNat = c) := hc
      have HS : Hid (l.take (k + 1) = l.take k ++ [l[k]]) := List.take_succ_eq_append_getElem hlt
      have hno : Hid (digitB l[k] = false → textB l = false) := fun h => by
        unfold textB
        have : l.all digitB = false := by
          rw [List.all_eq_false]
          exact ⟨l[k], List.getElem_mem hlt, by rw [h]; decide⟩
        rw [this]; rfl
      have hDG : Hid (digitB l[k] = decide (48 ≤ c ∧ c ≤ 57)) := by unfold Hid digitB; rw [HC.out]
      by_cases h1 : c < 48
      · have HF : Hid (textB l = false) := hno.out (by rw [hDG.out]; simp; omega)
        have h1d : decide ((c : Int) < 48) = true := by simp; omega
        go_wp2
        go_ret
        exact ⟨ret_bool HF.out.symm, rfl⟩
      · have h1d : decide ((c : Int) < 48) = false := by simp; omega
        by_cases h2 : 57 < c
        · have HF : Hid (textB l = false) := hno.out (by rw [hDG.out]; simp; omega)
          have h2d : decide (57 < (c : Int)) = true := by simp; omega
          go_wp2
          go_ret
          exact ⟨ret_bool HF.out.symm, rfl⟩
        · have h2d : decide (57 < (c : Int)) = false := by simp; omega
          go_wp2
          go_round
          case rel => exact ⟨k + 1, by go_num, by omega, by unfold Hid; rw [HS.out, List.all_append, HA.out, List.all_cons, List.all_nil, hDG.out]; simp; omega⟩
          case measure => simp [intOf]; omega
    · obtain rfl : k = l.length := by omega
      have hall : l.all digitB = true := by have := HA.out; rwa [List.take_length] at this
      rcases l with _ | ⟨c, t⟩
      · have HF : Hid (textB [] = false) := by unfold Hid; decide
        go_wp2
        go_ret
        exact ⟨ret_bool HF.out.symm, rfl⟩
      · by_cases h0 : c = 48 ∧ t = []
        · obtain ⟨rfl, rfl⟩ := h0
          have HF : Hid (textB [48] = true) := by unfold Hid; decide
          clear hall
          go_wp2
          all_goals first
            | (go_ret; exact ⟨ret_bool HF.out.symm, rfl⟩)
            | (exfalso; simp_all; done)
        · have hg : (c == 48 && t.isEmpty) = false := by
            cases hh : (c == 48 && t.isEmpty)
            · rfl
            · rw [Bool.and_eq_true] at hh
              exact absurd ⟨by simpa using hh.1, by simpa using hh.2⟩ h0
          have hz0 : 0 < (⟨(c :: t).toArray⟩ : ByteArray).size := Nat.zero_lt_succ _
          obtain ⟨d, hd⟩ : ∃ d : Nat, (⟨(c :: t).toArray⟩ : ByteArray)[0].toNat = d := ⟨_, rfl⟩
          have HD : Hid (c.toNat = d) := hd
          have HF : Hid (((d : Int) != 48) = textB (c :: t)) := by
            unfold Hid textB
            rw [hall, ← HD.out]
            have e1 : (c :: t == [48]) = false := by
              cases hh : (c :: t == [48])
              · rfl
              · have : c :: t = [48] := by simpa using hh
                injection this with h1 h2
                exact absurd ⟨h1, h2⟩ h0
            rw [e1]
            by_cases h48 : c = 48
            · subst h48; simp
            · have h2 : c.toNat ≠ 48 := fun h => h48 (UInt8.toNat_inj.1 (by rw [h]; rfl))
              have e2 : ((c.toNat : Int) == 48) = false := by simp; omega
              have e3 : ((c :: t).head? == some 48) = false := by simp [h48]
              have e4 : (c :: t == []) = false := rfl
              simp only [bne, e2, e3, e4, Bool.not_false, Bool.and_self, Bool.or_true, Bool.true_and]
          clear hall
          go_wp2
          go_ret
          exact ⟨ret_bool HF.out, rfl⟩
theorem rnat_any (n : Nat) (w : World) (hn : n ≤ 18446744073709551615) :
    Calls Try.prog 33 #[.int .u64 (n : Int)] w fun e w' => (∃ v, e = .returned v ∧ Nu w' v n) ∧ On w w' := by
  have h1 : (n : Int) % 4294967296 = ((n % 4294967296 : Nat) : Int) := by omega
  have h2 : (n : Int) / 4294967296 % 4294967296 = ((n / 4294967296 : Nat) : Int) := by omega
  have h3 : (n : Int) / 4294967296 = ((n / 4294967296 : Nat) : Int) := by omega
  have HE : Hid (n % 4294967296 + 4294967296 * (n / 4294967296) = n) := by unfold Hid; omega
  have HL : Hid (n < 4294967296 ^ 2) := by unfold Hid; simp; omega
  have HB1 : Hid (n % 4294967296 < 4294967296) := Nat.mod_lt _ (by decide)
  have HB2 : Hid (n / 4294967296 < 4294967296) := by unfold Hid; omega
  have H := Lib.hid (two_cells w (n % 4294967296) (n / 4294967296) HB1.out HB2.out)
  rw [HE.out] at H
  generalize hx : n % 4294967296 = a at *
  generalize hy : n / 4294967296 = b at *
  clear hx hy
  go_enter Try.func33, Try.ntmps33
  go_wp2_with (go_at_call 58; refine (rtrim_any _ 2 n _ H.out (Zc.some _ _ _) HL.out (by omega)).mono ?_; rintro e w5 ⟨⟨v', rfl, hv'⟩, hO5⟩; have HV := Lib.hid hv'.1; have HO5 := Lib.hid (((On.refl w).alloc _).trans hO5); clear hv' hO5)
  go_ret
  exact ⟨⟨_, rfl, HV.out⟩, HO5.out⟩
theorem rParse_bad (l : List UInt8) (w : World) (hl : l.length ≤ 9223372036854775807) (ht : textB l = false) :
    Calls Try.prog 29 #[str l] w fun e w' => (∃ v, e = .returned (.tuple #[v, .int .i64 4]) ∧ Nu w' v 0) ∧ On w w' := by
  have HN := Lib.hid (Nu.nil w)
  have HT := Lib.hid ht; clear ht
  have H := Lib.hid (rnatural_any l w hl)
  unfold str at *
  go_enter Try.func29, Try.ntmps29
  go_wp2_with (go_at_call 71; refine H.out.mono ?_; rw [HT.out]; rintro e w' ⟨rfl, rfl⟩)
  first | go_ret | go_returns | go_ret2
  exact ⟨⟨_, rfl, HN.out⟩, On.refl _⟩
theorem rbounded_nu (v : Value) (n : Nat) (w : World) (h : Nu w v n) :
    Calls Try.prog 61 #[v] w fun e w' => ∃ v', e = .returned (.tuple #[v', .int .i64 (limC n)]) ∧ Nu w v' (limN n) ∧ w = w' := by
  have HN := Lib.hid h
  obtain ⟨oa, cap, rfl, -, -, -⟩ := h.1
  by_cases hl : nl n ≤ 64
  · have HC : Hid (limC n = 0 ∧ limN n = n) := ⟨if_pos hl, if_pos hl⟩
    have hl1 : ¬ (64 < ((nl n : Nat) : Int)) := by omega
    go_enter Try.func61, Try.ntmps61
    go_wp2
    go_ret2
    exact ⟨_, by rw [HC.out.1]; rfl, by rw [HC.out.2]; exact HN.out, rfl⟩
  · have HC : Hid (limC n = 3 ∧ limN n = 0) := ⟨if_neg hl, if_neg hl⟩
    have hl1 : 64 < ((nl n : Nat) : Int) := by omega
    go_enter Try.func61, Try.ntmps61
    go_wp2
    go_ret2
    exact ⟨_, by rw [HC.out.1]; rfl, by rw [HC.out.2]; exact Nu.nil _, rfl⟩
theorem text_nl {l : List UInt8} (ht : textB l = true) : nl (numOf l) ≤ l.length ∧ (700 < l.length → ¬ nl (numOf l) ≤ 64) := by
  have hall : l.all digitB = true := by
    unfold textB at ht
    rw [Bool.and_eq_true] at ht
    exact ht.1
  refine ⟨(nl_le _ _).2 (Nat.lt_of_lt_of_le (numOf_lt hall) (Nat.pow_le_pow_left (by decide) _)), fun h h2 => ?_⟩
  have h3 := (dec_len _ h2).1
  rw [dec_numOf ht] at h3
  omega
theorem rParse_long (l : List UInt8) (w : World) (hl : l.length ≤ 9223372036854775807) (ht : textB l = true) (h7 : 700 < l.length) :
    Calls Try.prog 29 #[str l] w fun e w' => (∃ v, e = .returned (.tuple #[v, .int .i64 3]) ∧ Nu w' v 0) ∧ On w w' := by
  have hs : (⟨l.toArray⟩ : ByteArray).size = l.length := rfl
  have HN := Lib.hid (Nu.nil w)
  have HT := Lib.hid ht; clear ht
  have H := Lib.hid (rnatural_any l w hl)
  have h7' : (700 : Int) < (l.length : Int) := by omega
  unfold str at *
  go_enter Try.func29, Try.ntmps29
  go_wp2_with (go_at_call 71; refine H.out.mono ?_; rw [HT.out]; rintro e w' ⟨rfl, rfl⟩)
  go_ret2
  exact ⟨⟨_, rfl, HN.out⟩, On.refl _⟩
set_option maxHeartbeats 2000000 in
theorem rParse_yes (l : List UInt8) (w : World) (hl : l.length ≤ 9223372036854775807) (ht : textB l = true) (h7 : l.length ≤ 700) :
    Calls Try.prog 29 #[str l] w fun e w' => (∃ v, e = .returned (.tuple #[v, .int .i64 (limC (numOf l))]) ∧ Nu w' v (limN (numOf l))) ∧ On w w' := by
  have hs : (⟨l.toArray⟩ : ByteArray).size = l.length := rfl
  have HTN : Hid (∀ k, nl (numOf (l.take k)) ≤ 700) := fun k => Nat.le_trans (nl_mono (numOf_take_le l k)) (Nat.le_trans (text_nl ht).1 h7)
  have HD : Hid (∀ k (h : k < l.length), 48 ≤ l[k].toNat ∧ l[k].toNat ≤ 57) := by
    intro k h
    unfold textB at ht
    rw [Bool.and_eq_true, List.all_eq_true] at ht
    have := ht.1 l[k] (List.getElem_mem h)
    unfold digitB at this
    simpa using this
  have HT := Lib.hid ht; clear ht
  have H := Lib.hid (rnatural_any l w hl)
  have HN := Lib.hid (Nu.nil w)
  have h7' : ¬ ((700 : Int) < (l.length : Int)) := by omega
  unfold str at *
  go_enter Try.func29, Try.ntmps29
  go_wp2_with (go_at_call 71; refine H.out.mono ?_; rw [HT.out]; rintro e w' ⟨rfl, rfl⟩)
  go_loopw [4, 5] (fun v4 vi wr => ∃ (k : Nat) (oa : Option Addr) (n ca : Nat), vi = .int .i64 k ∧ k ≤ l.length ∧ v4 = .slice oa n ca ∧ Hid (Nu wr (.slice oa n ca) (numOf (l.take k)) ∧ On w wr)) (fun _ vi _ => l.length - (intOf vi).toNat)
  case atStart => exact ⟨0, none, 0, 0, rfl, Nat.zero_le _, rfl, HN.out, On.refl _⟩
  case round =>
    obtain ⟨k, oa, n, ca, rfl, hk, rfl, HW⟩ := hrel
    by_cases hlt : k < l.length
    · obtain ⟨c, hc⟩ : ∃ c : Nat, (⟨l.toArray⟩ : ByteArray)[k].toNat = c := ⟨_, rfl⟩
      have HC : Hid (l[k].toNat = c) := hc
      obtain ⟨hc1, hc2⟩ := HD.out k hlt
      rw [HC.out] at hc1 hc2
      obtain ⟨d, hd⟩ : ∃ d : Nat, (c : Int) - 48 = (d : Int) := ⟨c - 48, by omega⟩
      have hd9 : d ≤ 9 := by omega
      have HW8 : Hid (IntKind.u8.wrap ((d : Nat) : Int) = (d : Int)) := by unfold Hid; rw [IntKind.wrap_u8']; omega
      have HW64 : Hid (IntKind.u64.wrap ((d : Nat) : Int) = (d : Int)) := by unfold Hid; rw [IntKind.wrap_u64]; omega
      obtain ⟨A, hA⟩ : ∃ A, A = numOf (l.take k) := ⟨_, rfl⟩
      have HS : Hid (A * 10 + d = numOf (l.take (k + 1))) := by
        unfold Hid; rw [numOf_take_succ l k hlt, HC.out, ← hA]; omega
      have hAn : nl A ≤ 700 := by rw [hA]; exact HTN.out k
      have hA3 : nl (A * 10) ≤ 100000 := by
        refine Nat.le_trans (nl_mul_le A 10) ?_
        rw [nl_small (n := 10) (by decide) (by decide)]; omega
      have hn10 : nl 10 ≤ 100000 := by rw [nl_small (n := 10) (by decide) (by decide)]; decide
      have hnd : nl d ≤ 100000 := Nat.le_trans (nl_two (by omega)) (by decide)
      rw [← hA] at HW
      clear hA
      have HPR := Lib.hid (rproduct_any (.slice oa n ca) (.slice (some ⟨wr.heap.size, 0, none⟩) 1 1) A 10 ((wr.alloc (.cells #[.int .u32 10] 54)).drew) (HW.out.1.1.on ((On.refl wr).alloc _).drew) (Nv.on (ten_nv wr _ rfl) (On.refl _).drew) (by omega) hn10)
      have HO10 : Hid (On w ((wr.alloc (.cells #[.int .u32 10] 54)).drew)) := (HW.out.2.alloc _).drew
      clear hn10
      go_wp2
      go_region_held3 (fun w' => True) (trivial) (first
        | (go_at_call 66; refine HPR.out.mono ?_; rintro e wa ⟨⟨va, rfl, hva⟩, hOa⟩; have HVa := Lib.hid hva.1; have HOa := Lib.hid hOa; clear hva hOa)
        | (go_at_call 33; rw [HW8.out, HW64.out]; refine (rnat_any d _ (by omega)).mono ?_; rintro e wb ⟨⟨vb, rfl, hvb⟩, hOb⟩; have HVb := Lib.hid hvb.1; have HOb := Lib.hid hOb; clear hvb hOb)
        | (go_at_call 62; refine (rsum_any va vb (A * 10) d _ (HVa.out.on HOb.out) HVb.out hA3 hnd).mono ?_; rintro e wz ⟨⟨vz, rfl, hvz⟩, hOz⟩; have HV := Lib.hid hvz.1; have HO := Lib.hid (HO10.out.trans ((HOa.out.trans HOb.out).trans hOz)); obtain ⟨oz, cz, rfl, -, -, -⟩ := hvz.1.1; clear hvz hOz))
      all_goals
        go_wp2
        go_roundw
        case rel => exact ⟨k + 1, oz, _, cz, by go_num, by omega, rfl, by rw [← HS.out]; exact HV.out, HO.out⟩
        case measure => simp [intOf]; omega
    · obtain rfl : k = l.length := by omega
      have hv := HW.out.1
      rw [List.take_length] at hv
      have HV := Lib.hid hv; have HO := Lib.hid HW.out.2
      clear hv HW
      go_wp2_with (go_at_call 61; refine (rbounded_nu _ (numOf l) _ HV.out).mono ?_; rintro e w3 ⟨v3, rfl, h3', rfl⟩; have H3 := Lib.hid h3'; clear h3')
      go_ret2
      exact ⟨⟨_, rfl, H3.out⟩, HO.out⟩
/-- A number with its room, and an error. -/
abbrev AnsU (P : Program) (fn : FuncId) (args : Array Value) (w : World) (N : Nat) (c : Int) : Prop :=
  Calls P fn args w fun e w' => (∃ v, e = .returned (.tuple #[v, .int .i64 c]) ∧ Nu w' v N) ∧ On w w'
theorem AnsU.n {P : Program} {fn : FuncId} {args : Array Value} {w : World} {N : Nat} {c : Int} (h : AnsU P fn args w N c) : AnsN P fn args w N c := h.mono fun _ _ ⟨⟨v, h1, h2⟩, h3⟩ => ⟨⟨v, h1, h2.1⟩, h3⟩
/-- Parse, the program's and the document's own. -/
theorem parse_pair (l : List UInt8) (hl : l.length ≤ 9223372036854775807) :
    ∃ N c, (∀ w, AnsN Try.prog 28 #[str l] w N c) ∧ (∀ w, AnsU Try.prog 29 #[str l] w N c) ∧ (textB l = true → (c = 0 ∧ nl N ≤ 64) ∨ c = 3) := by
  cases ht : textB l
  · exact ⟨0, 4, fun w => (Parse_bad l w hl ht).mono fun e w' ⟨v, h1, h2, h3⟩ => ⟨⟨v, h1, h2⟩, h3⟩, fun w => rParse_bad l w hl ht, fun h => by cases h⟩
  · refine ⟨limN (numOf l), limC (numOf l), fun w => (Parse_yes l w hl ht).mono fun e w' ⟨v, h1, h2, h3⟩ => ⟨⟨v, h1, h2⟩, h3⟩, fun w => ?_, fun _ => ?_⟩
    · by_cases h7 : l.length ≤ 700
      · exact rParse_yes l w hl ht h7
      · have hb := (text_nl ht).2 (by omega)
        have e1 : limC (numOf l) = 3 := if_neg hb
        have e2 : limN (numOf l) = 0 := if_neg hb
        rw [e1, e2]
        exact rParse_long l w hl ht (by omega)
    · by_cases h : nl (numOf l) ≤ 64
      · have e2 : limN (numOf l) = numOf l := if_pos h
        exact .inl ⟨if_pos h, by rw [e2]; exact h⟩
      · exact .inr (if_neg h)
theorem nat_pair (n : Nat) (hn : n ≤ 18446744073709551615) (w : World) : AnsV Try.prog 32 #[.int .u64 (n : Int)] w n ∧ AnsV Try.prog 33 #[.int .u64 (n : Int)] w n :=
  ⟨(nat_any n w hn).mono fun e w' ⟨v, h1, h2, h3⟩ => ⟨⟨v, h1, h2⟩, h3⟩, (rnat_any n w hn).mono fun e w' ⟨⟨v, h1, h2⟩, h3⟩ => ⟨⟨v, h1, h2.1⟩, h3⟩⟩
end Go.Proofs.Ytdgmlmcllkgemaa

/- The document's own lowest and New: what each call returns. -/
namespace Go.Proofs.Ytdgmlmcllkgemaa
open Go.RowKit
set_option linter.unusedVariables false

/-- A fraction and an error. -/
abbrev AnsF (P : Program) (fn : FuncId) (args : Array Value) (w : World) (p q : Nat) (c : Int) : Prop :=
  Calls P fn args w fun e w' => (∃ v, e = .returned (.tuple #[v, .int .i64 c]) ∧ Fv w' v p q) ∧ On w w'
set_option maxHeartbeats 1000000 in
theorem rlow_any (va vb : Value) (x y : Nat) (w : World) (ha : Nu w va x) (hb : Nu w vb y) (hx : nl x ≤ 1000) (hy : nl y ≤ 1000) (hy0 : 0 < y) :
    AnsF Try.prog 76 #[va, vb] w (fitP (x / Nat.gcd x y) (y / Nat.gcd x y)) (fitQ (x / Nat.gcd x y) (y / Nat.gcd x y)) (fitC (x / Nat.gcd x y) (y / Nat.gcd x y)) := by
  have hg0 : 0 < Nat.gcd x y := Nat.gcd_pos_of_pos_right _ hy0
  have hgn : nl (Nat.gcd x y) ≤ 1000 := Nat.le_trans (nl_mono (Nat.gcd_le_right _ hy0)) hy
  have hO0 : On w (w.alloc (.cells #[.slice none 0 0, .slice none 0 0] 41)) := (On.refl w).alloc _
  have HA := Lib.hid (ha.on hO0); have HB := Lib.hid (hb.on hO0)
  clear ha hb hO0
  obtain ⟨g, hg⟩ : ∃ g, g = Nat.gcd x y := ⟨_, rfl⟩
  obtain ⟨P, hP⟩ : ∃ P, P = x / g := ⟨_, rfl⟩
  obtain ⟨Q, hQ⟩ : ∃ Q, Q = y / g := ⟨_, rfl⟩
  rw [← hg] at hg0 hgn ⊢
  rw [← hP, ← hQ]
  have HG0 := Lib.hid hg
  have HPE := Lib.hid hP; have HQE := Lib.hid hQ
  clear hg hP hQ
  go_enter Try.func76, Try.ntmps76
  go_wp2_with fail
  refine (rgcd_any _ _ x y _ HA.out HB.out hx hy).mono ?_
  rintro e w2 ⟨⟨vg, rfl, hg⟩, hOn⟩
  rw [← HG0.out] at hg
  have HG := Lib.hid hg.1; have HO := Lib.hid hOn
  clear hg hOn
  go_wp2_with fail
  refine (rquotient_any va vg x g w2 (HA.out.1.on HO.out) HG.out.1 hg0 hx hgn).mono ?_
  rintro e w3 ⟨⟨vq, vr, rfl, hq, -⟩, hOn⟩
  rw [← HPE.out] at hq
  have HQ := Lib.hid hq.1; have HO3 := Lib.hid (HO.out.trans hOn); have HG3 := Lib.hid (HG.out.on hOn)
  clear hq hOn
  go_wp2_with fail
  refine (rquotient_any vb vg y g w3 (HB.out.1.on HO3.out) HG3.out.1 hg0 hy hgn).mono ?_
  rintro e w4 ⟨⟨vs, vt, rfl, hq, -⟩, hOn⟩
  rw [← HQE.out] at hq
  have HS := Lib.hid hq.1; have HQ4 := Lib.hid (HQ.out.on hOn); have HO4 := Lib.hid (HO3.out.trans hOn)
  clear hq hOn HG HG3
  obtain ⟨op, cp, rfl, -, -, -⟩ := id HQ4.out
  obtain ⟨oz, cz, rfl, -, -, -⟩ := id HS.out
  by_cases hf : nl P ≤ 64 ∧ nl Q ≤ 64
  · have hfit : fitB P Q = true := by unfold fitB; simp; exact hf
    have HF : Hid (fitC P Q = 0 ∧ fitP P Q = P ∧ fitQ P Q = Q) := ⟨if_pos hfit, if_pos hfit, if_pos hfit⟩
    have h1 : ¬ ((64 : Int) < ((nl P : Nat) : Int)) := by omega
    have h2 : ¬ ((64 : Int) < ((nl Q : Nat) : Int)) := by omega
    obtain ⟨k1, k2, k3, k4, k5, k6, k7⟩ := res_facts HO4.out (.slice op (nl P) cp) (.slice oz (nl Q) cz)
    clear hfit hf
    go_wp2
    (try simp only [Exit.inBlock, Exit.then])
    refine bodyPost_ret (by simp [results, Try.results76, go_sem, k6, k7]; try rfl) rfl ?_
    rw [HF.out.1, HF.out.2.1, HF.out.2.2]
    exact ⟨⟨_, rfl, (res_end HO4.out HQ4.out HS.out).1⟩, (res_end HO4.out HQ4.out HS.out).2⟩
  · have hfit : fitB P Q = false := by unfold fitB; simp; omega
    have HF : Hid (fitC P Q = 3 ∧ fitP P Q = 0 ∧ fitQ P Q = 0) := by
      unfold Hid fitC fitP fitQ; rw [hfit]; simp
    have h1 : (64 : Int) < ((nl P : Nat) : Int) ∨ (¬ ((64 : Int) < ((nl P : Nat) : Int)) ∧ (64 : Int) < ((nl Q : Nat) : Int)) := by omega
    obtain ⟨k1, k2, k3, k4, k5, k6, k7⟩ := res_facts HO4.out (.slice none 0 0) (.slice none 0 0)
    clear hfit hf
    rcases h1 with h1 | ⟨h1, h2⟩
    all_goals
      go_wp2
      (try simp only [Exit.inBlock, Exit.then])
      refine bodyPost_ret (by simp [results, Try.results76, go_sem, k6, k7]; try rfl) rfl ?_
      rw [HF.out.1, HF.out.2.1, HF.out.2.2]
      exact ⟨⟨_, rfl, (res_end HO4.out (Nv.nil _) (Nv.nil _)).1⟩, (res_end HO4.out (Nv.nil _) (Nv.nil _)).2⟩
theorem rNew_bad (va vb : Value) (m x n y : Nat) (w : World) (ha : Lv w va m (x : Int)) (hx : x < 4294967296 ^ m) (hb : Lv w vb n (y : Int)) (hy : y < 4294967296 ^ n) (hv : (okB m x && okB n y) = false) :
    AnsF Try.prog 42 #[va, vb] w 0 0 1 := by
  have hO : On w (w.alloc (.cells #[.slice none 0 0, .slice none 0 0] 41)) := (On.refl w).alloc _
  have HVA := Lib.hid (rvalid_lv va m x _ (ha.on hO) hx); have HVB := Lib.hid (rvalid_lv vb n y _ (hb.on hO) hy)
  clear ha hb hx hy hO
  cases h1 : okB m x
  · rw [h1] at HVA
    clear h1 hv
    go_enter Try.func42, Try.ntmps42
    go_wp2_with (go_at_call 11; (with_reducible refine HVA.out.mono ?_); rintro e w' ⟨rfl, rfl⟩)
    first | go_ret | go_returns | go_ret2
    exact ⟨⟨_, rfl, Fv.zero _⟩, (On.refl w).alloc _⟩
  · rw [h1] at HVA
    rw [h1, Bool.true_and] at hv
    rw [hv] at HVB
    clear h1 hv
    go_enter Try.func42, Try.ntmps42
    go_wp2_with (first
      | (go_at_call 11; (with_reducible refine HVA.out.mono ?_); rintro e w' ⟨rfl, rfl⟩)
      | (go_at_call 11; (with_reducible refine HVB.out.mono ?_); rintro e w' ⟨rfl, rfl⟩))
    first | go_ret | go_returns | go_ret2
    exact ⟨⟨_, rfl, Fv.zero _⟩, (On.refl w).alloc _⟩
set_option maxHeartbeats 1000000 in
theorem rNew_yes (va vb : Value) (x y : Nat) (w : World) (ha : Nu w va x) (hb : Nu w vb y) (hx : nl x ≤ 64) (hy : nl y ≤ 64) :
    AnsF Try.prog 42 #[va, vb] w (if y = 0 then 0 else x / Nat.gcd x y) (if y = 0 then 0 else y / Nat.gcd x y) (if y = 0 then 2 else 0) := by
  have hO : On w (w.alloc (.cells #[.slice none 0 0, .slice none 0 0] 41)) := (On.refl w).alloc _
  obtain ⟨n, hn⟩ : ∃ n, n = nl y := ⟨_, rfl⟩
  have hoy : okB n y = true := by rw [hn, okB_nl]; simp [hy]
  have hox : okB (nl x) x = true := by rw [okB_nl]; simp [hx]
  have hbn : Lv w vb n (y : Int) := by rw [hn]; exact hb.1
  have HVA := Lib.hid (rvalid_lv va (nl x) x _ (ha.on hO).1 (lt_nl x)); have HVB := Lib.hid (rvalid_lv vb n y _ (hbn.on hO) (by rw [hn]; exact lt_nl y))
  rw [hox] at HVA
  rw [hoy] at HVB
  obtain ⟨ob, cb, rfl, -, -, -⟩ := id hbn
  have HAu := Lib.hid (ha.on hO); have HBu := Lib.hid (hb.on hO)
  clear hbn hoy hox ha hb hO
  rcases Nat.eq_zero_or_pos y with hy0 | hy0
  · rw [if_pos hy0, if_pos hy0, if_pos hy0]
    have hn0 : n = 0 := by rw [hn, hy0, nl_zero]
    clear hn hy0
    subst hn0
    go_enter Try.func42, Try.ntmps42
    go_wp2_with (first
      | (go_at_call 11; (with_reducible refine HVA.out.mono ?_); rintro e w' ⟨rfl, rfl⟩)
      | (go_at_call 11; (with_reducible refine HVB.out.mono ?_); rintro e w' ⟨rfl, rfl⟩))
    first | go_ret | go_returns | go_ret2
    exact ⟨⟨_, rfl, Fv.zero _⟩, (On.refl w).alloc _⟩
  · have hyn : ¬ y = 0 := by omega
    rw [if_neg hyn, if_neg hyn, if_neg hyn]
    have hnz : (((n : Nat) : Int) == 0) = false := by have := nl_pos hy0; simp; omega
    have HL := Lib.hid (rlow_any va (.slice ob n cb) x y _ HAu.out HBu.out (by omega) (by omega) hy0)
    have hfit : fitB (x / Nat.gcd x y) (y / Nat.gcd x y) = true := by
      have h1 := nl_mono (Nat.div_le_self x (Nat.gcd x y))
      have h2 := nl_mono (Nat.div_le_self y (Nat.gcd x y))
      unfold fitB; simp; omega
    rw [show fitC (x / Nat.gcd x y) (y / Nat.gcd x y) = 0 from if_pos hfit, show fitP (x / Nat.gcd x y) (y / Nat.gcd x y) = x / Nat.gcd x y from if_pos hfit, show fitQ (x / Nat.gcd x y) (y / Nat.gcd x y) = y / Nat.gcd x y from if_pos hfit] at HL
    obtain ⟨P, hP⟩ : ∃ P, P = x / Nat.gcd x y := ⟨_, rfl⟩
    obtain ⟨Q, hQ⟩ : ∃ Q, Q = y / Nat.gcd x y := ⟨_, rfl⟩
    rw [← hP, ← hQ] at HL ⊢
    clear hP hQ hfit hn hyn hy0 HAu HBu
    go_enter Try.func42, Try.ntmps42
    go_wp2_with (first
      | (go_at_call 11; (with_reducible refine HVA.out.mono ?_); rintro e w' ⟨rfl, rfl⟩)
      | (go_at_call 11; (with_reducible refine HVB.out.mono ?_); rintro e w' ⟨rfl, rfl⟩)
      | (go_at_call 76; refine HL.out.mono ?_; rintro e w5 ⟨⟨v, rfl, ⟨vp, vz, rfl, hp, hz⟩⟩, hOn⟩; have HP := Lib.hid hp; have HZ := Lib.hid hz; have HO5 := Lib.hid hOn; obtain ⟨op, cp, rfl, -, -, -⟩ := hp; obtain ⟨oz, cz, rfl, -, -, -⟩ := hz; clear hOn; obtain ⟨k1, k2, k3, k4, k5, k6, k7⟩ := res_facts HO5.out (.slice op (nl P) cp) (.slice oz (nl Q) cz)))
    (try simp only [Exit.inBlock, Exit.then])
    refine bodyPost_ret (by simp [results, Try.results42, go_sem, k6, k7]; try rfl) rfl ?_
    exact ⟨⟨_, rfl, (res_end HO5.out HP.out HZ.out).1⟩, (res_end HO5.out HP.out HZ.out).2⟩
/-- New of two numbers, the program's and the document's own. -/
theorem new_pair (x y : Nat) (hx : nl x ≤ 64) (hy : nl y ≤ 64) :
    ∃ p q c, (∀ va vb w, Nv w va x → Nv w vb y → AnsF Try.prog 41 #[va, vb] w p q c) ∧ ∀ va vb w, Nu w va x → Nu w vb y → AnsF Try.prog 42 #[va, vb] w p q c := by
  refine ⟨_, _, _, fun va vb w h h' => ?_, fun va vb w h h' => rNew_yes va vb x y w h h' hx hy⟩
  rcases Nat.eq_zero_or_pos y with rfl | hy0
  · exact (New_zero va vb x w h hx h').mono fun e w' ⟨v, h1, h2, h3⟩ => ⟨⟨v, h1, h2⟩, h3⟩
  · have hyn : ¬ y = 0 := by omega
    rw [if_neg hyn, if_neg hyn, if_neg hyn]
    exact (New_yes va vb x y w h h' hx hy hy0).mono fun e w' ⟨v, h1, h2, h3⟩ => ⟨⟨v, h1, h2⟩, h3⟩
end Go.Proofs.Ytdgmlmcllkgemaa

/- Read, the program's and the document's own: the same answers. -/
namespace Go.Proofs.Ytdgmlmcllkgemaa
open Go.RowKit
set_option linter.unusedVariables false

set_option maxHeartbeats 1000000 in
theorem pread_a (a b : List UInt8) (w : World) (h47 : (47 : UInt8) ∉ a) (hl : (a ++ 47 :: b).length ≤ 9223372036854775807) (ta : textB a = false) :
    AnsF Try.prog 30 #[str (a ++ 47 :: b)] w 0 0 4 := by
  have hla : a.length ≤ 9223372036854775807 := by rw [List.length_append, List.length_cons] at hl; omega
  have hlb : b.length ≤ 9223372036854775807 := by rw [List.length_append, List.length_cons] at hl; omega
  have HCut := Lib.hid (fun w0 => lcut_yes a b w0 h47 hl)
  have HIa := Lib.hid (fun w0 => isText_any a w0 hla)
  have HIb := Lib.hid (fun w0 => isText_any b w0 hlb)
  rw [ta] at HIa
  clear h47 hl hla hlb
  have HO1 : Hid (On w (w.alloc (.cells #[.slice none 0 0, .slice none 0 0] 41))) := (On.refl w).alloc _
  unfold str at *
  generalize (⟨(a ++ 47 :: b).toArray⟩ : ByteArray) = s at *
  generalize (⟨a.toArray⟩ : ByteArray) = sa at *
  generalize (⟨b.toArray⟩ : ByteArray) = sb at *
  go_enter Try.func30, Try.ntmps30
  go_wp2_with fail
  refine (HCut.out _).mono ?_
  rintro e w1 ⟨rfl, n, hn⟩
  have HW1 : Hid (On (w.alloc (.cells #[.slice none 0 0, .slice none 0 0] 41)) w1) := (hn ▸ (On.refl _).drewN n : On _ w1)
  clear hn
  go_wp2_with fail
  refine (HIa.out w1).mono ?_
  rintro e w' ⟨rfl, rfl⟩
  obtain ⟨k1, k2, k3, k4, k5, k6, k7⟩ := res_facts HW1.out (.slice none 0 0) (.slice none 0 0)
  go_wp2
  (try simp only [Exit.inBlock, Exit.then])
  refine bodyPost_ret (by simp [results, Try.results30, go_sem, k6, k7]; try rfl) rfl ?_
  exact ⟨⟨_, rfl, (res_end HW1.out (Nv.nil _) (Nv.nil _)).1⟩, (res_end HW1.out (Nv.nil _) (Nv.nil _)).2⟩
set_option maxHeartbeats 1000000 in
theorem pread_b (a b : List UInt8) (w : World) (h47 : (47 : UInt8) ∉ a) (hl : (a ++ 47 :: b).length ≤ 9223372036854775807) (ta : textB a = true) (tb : textB b = false) :
    AnsF Try.prog 30 #[str (a ++ 47 :: b)] w 0 0 4 := by
  have hla : a.length ≤ 9223372036854775807 := by rw [List.length_append, List.length_cons] at hl; omega
  have hlb : b.length ≤ 9223372036854775807 := by rw [List.length_append, List.length_cons] at hl; omega
  have HCut := Lib.hid (fun w0 => lcut_yes a b w0 h47 hl)
  have HIa := Lib.hid (fun w0 => isText_any a w0 hla)
  have HIb := Lib.hid (fun w0 => isText_any b w0 hlb)
  rw [ta] at HIa
  rw [tb] at HIb
  clear h47 hl hla hlb
  have HO1 : Hid (On w (w.alloc (.cells #[.slice none 0 0, .slice none 0 0] 41))) := (On.refl w).alloc _
  unfold str at *
  generalize (⟨(a ++ 47 :: b).toArray⟩ : ByteArray) = s at *
  generalize (⟨a.toArray⟩ : ByteArray) = sa at *
  generalize (⟨b.toArray⟩ : ByteArray) = sb at *
  go_enter Try.func30, Try.ntmps30
  go_wp2_with fail
  refine (HCut.out _).mono ?_
  rintro e w1 ⟨rfl, n, hn⟩
  have HW1 : Hid (On (w.alloc (.cells #[.slice none 0 0, .slice none 0 0] 41)) w1) := (hn ▸ (On.refl _).drewN n : On _ w1)
  clear hn
  go_wp2_with fail
  refine (HIa.out w1).mono ?_
  rintro e w' ⟨rfl, rfl⟩
  go_wp2_with fail
  refine (HIb.out w1).mono ?_
  rintro e w' ⟨rfl, rfl⟩
  obtain ⟨k1, k2, k3, k4, k5, k6, k7⟩ := res_facts HW1.out (.slice none 0 0) (.slice none 0 0)
  go_wp2
  (try simp only [Exit.inBlock, Exit.then])
  refine bodyPost_ret (by simp [results, Try.results30, go_sem, k6, k7]; try rfl) rfl ?_
  exact ⟨⟨_, rfl, (res_end HW1.out (Nv.nil _) (Nv.nil _)).1⟩, (res_end HW1.out (Nv.nil _) (Nv.nil _)).2⟩
set_option maxHeartbeats 1000000 in
theorem pread_e1 (a b : List UInt8) (w : World) (h47 : (47 : UInt8) ∉ a) (hl : (a ++ 47 :: b).length ≤ 9223372036854775807) (N : Nat) (ta : textB a = true) (tb : textB b = true) (hpa : ∀ w0, AnsN Try.prog 28 #[str a] w0 N 3) :
    AnsF Try.prog 30 #[str (a ++ 47 :: b)] w 0 0 3 := by
  have hla : a.length ≤ 9223372036854775807 := by rw [List.length_append, List.length_cons] at hl; omega
  have hlb : b.length ≤ 9223372036854775807 := by rw [List.length_append, List.length_cons] at hl; omega
  have HCut := Lib.hid (fun w0 => lcut_yes a b w0 h47 hl)
  have HIa := Lib.hid (fun w0 => isText_any a w0 hla)
  have HIb := Lib.hid (fun w0 => isText_any b w0 hlb)
  rw [ta] at HIa
  rw [tb] at HIb
  clear h47 hl hla hlb
  have HO1 : Hid (On w (w.alloc (.cells #[.slice none 0 0, .slice none 0 0] 41))) := (On.refl w).alloc _
  unfold str at *
  generalize (⟨(a ++ 47 :: b).toArray⟩ : ByteArray) = s at *
  generalize (⟨a.toArray⟩ : ByteArray) = sa at *
  generalize (⟨b.toArray⟩ : ByteArray) = sb at *
  have HPa := Lib.hid hpa
  clear hpa
  go_enter Try.func30, Try.ntmps30
  go_wp2_with fail
  refine (HCut.out _).mono ?_
  rintro e w1 ⟨rfl, n, hn⟩
  have HW1 : Hid (On (w.alloc (.cells #[.slice none 0 0, .slice none 0 0] 41)) w1) := (hn ▸ (On.refl _).drewN n : On _ w1)
  clear hn
  go_wp2_with fail
  refine (HIa.out w1).mono ?_
  rintro e w' ⟨rfl, rfl⟩
  go_wp2_with fail
  refine (HIb.out w1).mono ?_
  rintro e w' ⟨rfl, rfl⟩
  go_wp2_with fail
  refine (HPa.out w1).mono ?_
  rintro e w2 ⟨⟨va, rfl, hva⟩, hO⟩
  have HVA := Lib.hid hva; have HO2 := Lib.hid (HW1.out.trans hO)
  clear hva hO
  obtain ⟨k1, k2, k3, k4, k5, k6, k7⟩ := res_facts HO2.out (.slice none 0 0) (.slice none 0 0)
  go_wp2
  (try simp only [Exit.inBlock, Exit.then])
  refine bodyPost_ret (by simp [results, Try.results30, go_sem, k6, k7]; try rfl) rfl ?_
  exact ⟨⟨_, rfl, (res_end HO2.out (Nv.nil _) (Nv.nil _)).1⟩, (res_end HO2.out (Nv.nil _) (Nv.nil _)).2⟩
set_option maxHeartbeats 1000000 in
theorem pread_e2 (a b : List UInt8) (w : World) (h47 : (47 : UInt8) ∉ a) (hl : (a ++ 47 :: b).length ≤ 9223372036854775807) (A N : Nat) (ta : textB a = true) (tb : textB b = true) (hpa : ∀ w0, AnsN Try.prog 28 #[str a] w0 A 0) (hpb : ∀ w0, AnsN Try.prog 28 #[str b] w0 N 3) :
    AnsF Try.prog 30 #[str (a ++ 47 :: b)] w 0 0 3 := by
  have hla : a.length ≤ 9223372036854775807 := by rw [List.length_append, List.length_cons] at hl; omega
  have hlb : b.length ≤ 9223372036854775807 := by rw [List.length_append, List.length_cons] at hl; omega
  have HCut := Lib.hid (fun w0 => lcut_yes a b w0 h47 hl)
  have HIa := Lib.hid (fun w0 => isText_any a w0 hla)
  have HIb := Lib.hid (fun w0 => isText_any b w0 hlb)
  rw [ta] at HIa
  rw [tb] at HIb
  clear h47 hl hla hlb
  have HO1 : Hid (On w (w.alloc (.cells #[.slice none 0 0, .slice none 0 0] 41))) := (On.refl w).alloc _
  unfold str at *
  generalize (⟨(a ++ 47 :: b).toArray⟩ : ByteArray) = s at *
  generalize (⟨a.toArray⟩ : ByteArray) = sa at *
  generalize (⟨b.toArray⟩ : ByteArray) = sb at *
  have HPa := Lib.hid hpa
  clear hpa
  have HPb := Lib.hid hpb
  clear hpb
  go_enter Try.func30, Try.ntmps30
  go_wp2_with fail
  refine (HCut.out _).mono ?_
  rintro e w1 ⟨rfl, n, hn⟩
  have HW1 : Hid (On (w.alloc (.cells #[.slice none 0 0, .slice none 0 0] 41)) w1) := (hn ▸ (On.refl _).drewN n : On _ w1)
  clear hn
  go_wp2_with fail
  refine (HIa.out w1).mono ?_
  rintro e w' ⟨rfl, rfl⟩
  go_wp2_with fail
  refine (HIb.out w1).mono ?_
  rintro e w' ⟨rfl, rfl⟩
  go_wp2_with fail
  refine (HPa.out w1).mono ?_
  rintro e w2 ⟨⟨va, rfl, hva⟩, hO⟩
  have HVA := Lib.hid hva; have HO2 := Lib.hid (HW1.out.trans hO)
  clear hva hO
  go_wp2_with fail
  refine (HPb.out w2).mono ?_
  rintro e w3 ⟨⟨vb, rfl, hvb⟩, hO⟩
  have HVB := Lib.hid hvb; have HVA3 := Lib.hid (HVA.out.on hO); have HO3 := Lib.hid (HO2.out.trans hO)
  clear hvb hO
  obtain ⟨k1, k2, k3, k4, k5, k6, k7⟩ := res_facts HO3.out (.slice none 0 0) (.slice none 0 0)
  go_wp2
  (try simp only [Exit.inBlock, Exit.then])
  refine bodyPost_ret (by simp [results, Try.results30, go_sem, k6, k7]; try rfl) rfl ?_
  exact ⟨⟨_, rfl, (res_end HO3.out (Nv.nil _) (Nv.nil _)).1⟩, (res_end HO3.out (Nv.nil _) (Nv.nil _)).2⟩
set_option maxHeartbeats 1000000 in
theorem pread_ok (a b : List UInt8) (w : World) (h47 : (47 : UInt8) ∉ a) (hl : (a ++ 47 :: b).length ≤ 9223372036854775807) (A B p q : Nat) (c : Int) (ta : textB a = true) (tb : textB b = true) (hpa : ∀ w0, AnsN Try.prog 28 #[str a] w0 A 0) (hpb : ∀ w0, AnsN Try.prog 28 #[str b] w0 B 0) (hnew : ∀ va vb w0, Nv w0 va A → Nv w0 vb B → AnsF Try.prog 41 #[va, vb] w0 p q c) :
    AnsF Try.prog 30 #[str (a ++ 47 :: b)] w p q c := by
  have hla : a.length ≤ 9223372036854775807 := by rw [List.length_append, List.length_cons] at hl; omega
  have hlb : b.length ≤ 9223372036854775807 := by rw [List.length_append, List.length_cons] at hl; omega
  have HCut := Lib.hid (fun w0 => lcut_yes a b w0 h47 hl)
  have HIa := Lib.hid (fun w0 => isText_any a w0 hla)
  have HIb := Lib.hid (fun w0 => isText_any b w0 hlb)
  rw [ta] at HIa
  rw [tb] at HIb
  clear h47 hl hla hlb
  have HO1 : Hid (On w (w.alloc (.cells #[.slice none 0 0, .slice none 0 0] 41))) := (On.refl w).alloc _
  unfold str at *
  generalize (⟨(a ++ 47 :: b).toArray⟩ : ByteArray) = s at *
  generalize (⟨a.toArray⟩ : ByteArray) = sa at *
  generalize (⟨b.toArray⟩ : ByteArray) = sb at *
  have HPa := Lib.hid hpa
  clear hpa
  have HPb := Lib.hid hpb
  clear hpb
  have HNew := Lib.hid hnew
  clear hnew
  go_enter Try.func30, Try.ntmps30
  go_wp2_with fail
  refine (HCut.out _).mono ?_
  rintro e w1 ⟨rfl, n, hn⟩
  have HW1 : Hid (On (w.alloc (.cells #[.slice none 0 0, .slice none 0 0] 41)) w1) := (hn ▸ (On.refl _).drewN n : On _ w1)
  clear hn
  go_wp2_with fail
  refine (HIa.out w1).mono ?_
  rintro e w' ⟨rfl, rfl⟩
  go_wp2_with fail
  refine (HIb.out w1).mono ?_
  rintro e w' ⟨rfl, rfl⟩
  go_wp2_with fail
  refine (HPa.out w1).mono ?_
  rintro e w2 ⟨⟨va, rfl, hva⟩, hO⟩
  have HVA := Lib.hid hva; have HO2 := Lib.hid (HW1.out.trans hO)
  clear hva hO
  go_wp2_with fail
  refine (HPb.out w2).mono ?_
  rintro e w3 ⟨⟨vb, rfl, hvb⟩, hO⟩
  have HVB := Lib.hid hvb; have HVA3 := Lib.hid (HVA.out.on hO); have HO3 := Lib.hid (HO2.out.trans hO)
  clear hvb hO
  go_wp2_with fail
  refine (HNew.out va vb w3 HVA3.out HVB.out).mono ?_
  rintro e w5 ⟨⟨v, rfl, ⟨vp, vz, rfl, hp, hz⟩⟩, hOn⟩
  have HP := Lib.hid hp; have HZ := Lib.hid hz; have HO5 := Lib.hid (HO3.out.trans hOn)
  obtain ⟨op, cp, rfl, -, -, -⟩ := hp
  obtain ⟨oz, cz, rfl, -, -, -⟩ := hz
  clear hOn
  obtain ⟨k1, k2, k3, k4, k5, k6, k7⟩ := res_facts HO5.out (.slice op (nl p) cp) (.slice oz (nl q) cz)
  go_wp2
  (try simp only [Exit.inBlock, Exit.then])
  refine bodyPost_ret (by simp [results, Try.results30, go_sem, k6, k7]; try rfl) rfl ?_
  exact ⟨⟨_, rfl, (res_end HO5.out HP.out HZ.out).1⟩, (res_end HO5.out HP.out HZ.out).2⟩
theorem pread_not (l : List UInt8) (w : World) (h47 : (47 : UInt8) ∉ l) (hl : l.length ≤ 9223372036854775807) (ht : textB l = true) : AnsF Try.prog 30 #[str l] w 0 0 4 := by
  have HCut := Lib.hid (fun w0 => lcut_no l w0 h47)
  have HIa := Lib.hid (fun w0 => isText_any l w0 hl)
  have HIb := Lib.hid (fun w0 => isText_any [] w0 (by simp))
  rw [ht] at HIa
  rw [show textB [] = false by decide] at HIb
  clear h47 hl ht
  have HO1 : Hid (On w (w.alloc (.cells #[.slice none 0 0, .slice none 0 0] 41))) := (On.refl w).alloc _
  have HW1 : Hid (On (w.alloc (.cells #[.slice none 0 0, .slice none 0 0] 41)) (w.alloc (.cells #[.slice none 0 0, .slice none 0 0] 41))) := On.refl _
  unfold str at *
  generalize (⟨l.toArray⟩ : ByteArray) = s at *
  go_enter Try.func30, Try.ntmps30
  go_wp2_with fail
  refine (HCut.out _).mono ?_
  rintro e w1 ⟨rfl, rfl⟩
  go_wp2_with fail
  refine (HIa.out _).mono ?_
  rintro e w' ⟨rfl, rfl⟩
  go_wp2_with fail
  refine (HIb.out _).mono ?_
  rintro e w' ⟨rfl, rfl⟩
  go_wp2
  first | go_ret | go_returns | go_ret2
  exact ⟨⟨_, rfl, Fv.zero _⟩, (On.refl w).alloc _⟩
theorem pread_nof (l : List UInt8) (w : World) (h47 : (47 : UInt8) ∉ l) (hl : l.length ≤ 9223372036854775807) (ht : textB l = false) : AnsF Try.prog 30 #[str l] w 0 0 4 := by
  have HCut := Lib.hid (fun w0 => lcut_no l w0 h47)
  have HIa := Lib.hid (fun w0 => isText_any l w0 hl)
  have HIb := Lib.hid (fun w0 => isText_any [] w0 (by simp))
  rw [ht] at HIa
  rw [show textB [] = false by decide] at HIb
  clear h47 hl ht
  have HO1 : Hid (On w (w.alloc (.cells #[.slice none 0 0, .slice none 0 0] 41))) := (On.refl w).alloc _
  have HW1 : Hid (On (w.alloc (.cells #[.slice none 0 0, .slice none 0 0] 41)) (w.alloc (.cells #[.slice none 0 0, .slice none 0 0] 41))) := On.refl _
  unfold str at *
  generalize (⟨l.toArray⟩ : ByteArray) = s at *
  go_enter Try.func30, Try.ntmps30
  go_wp2_with fail
  refine (HCut.out _).mono ?_
  rintro e w1 ⟨rfl, rfl⟩
  go_wp2_with fail
  refine (HIa.out _).mono ?_
  rintro e w' ⟨rfl, rfl⟩
  go_wp2
  first | go_ret | go_returns | go_ret2
  exact ⟨⟨_, rfl, Fv.zero _⟩, (On.refl w).alloc _⟩
end Go.Proofs.Ytdgmlmcllkgemaa

/- Read of the document's own; and beside the program's: the same answers. -/
namespace Go.Proofs.Ytdgmlmcllkgemaa
open Go.RowKit
set_option linter.unusedVariables false

theorem slash_at (a b : List UInt8) : (∀ k (h : k < (a ++ 47 :: b).length), k < a.length → (47 : UInt8) ∉ a → (a ++ 47 :: b)[k].toNat ≠ 47) ∧ ∀ h : a.length < (a ++ 47 :: b).length, (a ++ 47 :: b)[a.length].toNat = 47 := by
  refine ⟨fun k h hk hn e => hn ?_, fun h => ?_⟩
  · rw [List.getElem_append_left hk] at e
    have : a[k] = 47 := UInt8.toNat_inj.1 (by rw [e]; rfl)
    rw [← this]; exact List.getElem_mem hk
  · rw [List.getElem_append_right (Nat.le_refl _)]; simp
theorem slash_runs (a b : List UInt8) (hl : (a ++ 47 :: b).length ≤ 9223372036854775807) (W : World) :
    (Instr.slice 9 (.string ⟨(a ++ 47 :: b).toArray⟩) none (some (.int .i64 (a.length : Int))) none).run Try.prog W = .ok (.string ⟨a.toArray⟩) W ∧
    (Instr.slice 9 (.string ⟨(a ++ 47 :: b).toArray⟩) (some (.int .i64 ((a.length : Int) + 1))) none none).run Try.prog W = .ok (.string ⟨b.toArray⟩) W := by
  have hlen : (a ++ 47 :: b).length = a.length + 1 + b.length := by rw [List.length_append, List.length_cons]; omega
  have hs : (⟨(a ++ 47 :: b).toArray⟩ : ByteArray).size = a.length + 1 + b.length := hlen
  constructor
  · rw [run_slice_string_to_if (P := Try.prog) (w := W) 9 _ .i64 _ Try.underlying9]
    rw [if_pos (by rw [hs]; omega)]
    rw [Int.toNat_natCast, extract_str]
    simp
  · rw [run_slice_string_from_if (P := Try.prog) (w := W) 9 _ .i64 _ Try.underlying9]
    rw [if_pos (by rw [hs]; omega)]
    rw [show ((a.length : Int) + 1).toNat = a.length + 1 by omega, extract_str, hs]
    have e : ((a ++ 47 :: b).take (a.length + 1 + b.length)).drop (a.length + 1) = b := by
      rw [List.take_of_length_le (by omega), show a ++ 47 :: b = (a ++ [47]) ++ b by simp, List.drop_left' (by simp)]
    rw [e]
set_option maxHeartbeats 2000000 in
theorem rread_a (a b : List UInt8) (w : World) (h47 : (47 : UInt8) ∉ a) (hl : (a ++ 47 :: b).length ≤ 9223372036854775806) (ta : textB a = false) :
    AnsF Try.prog 31 #[str (a ++ 47 :: b)] w 0 0 4 := by
  have hla : a.length ≤ 9223372036854775806 := by rw [List.length_append, List.length_cons] at hl; omega
  have hlb : b.length ≤ 9223372036854775806 := by rw [List.length_append, List.length_cons] at hl; omega
  have hab : a.length < (a ++ 47 :: b).length := by rw [List.length_append, List.length_cons]; omega
  have HIa := Lib.hid (fun w0 => rnatural_any a w0 (by omega))
  have HIb := Lib.hid (fun w0 => rnatural_any b w0 (by omega))
  rw [ta] at HIa
  have HS1 := Lib.hid (fun k h hk => (slash_at a b).1 k h hk h47)
  have HS2 := Lib.hid ((slash_at a b).2 hab)
  have hr1 := fun W => (slash_runs a b (by omega) W).1
  have hr2 := fun W => (slash_runs a b (by omega) W).2
  have HO1 : Hid (On w (w.alloc (.cells #[.slice none 0 0, .slice none 0 0] 41))) := (On.refl w).alloc _
  have HW1 : Hid (On (w.alloc (.cells #[.slice none 0 0, .slice none 0 0] 41)) (w.alloc (.cells #[.slice none 0 0, .slice none 0 0] 41))) := On.refl _
  unfold str at *
  generalize (a ++ 47 :: b) = l at *
  have hs : (⟨l.toArray⟩ : ByteArray).size = l.length := rfl
  generalize (⟨a.toArray⟩ : ByteArray) = sa at *
  generalize (⟨b.toArray⟩ : ByteArray) = sb at *
  generalize a.length = n at *
  clear h47
  go_enter Try.func31, Try.ntmps31
  go_wp2_with fail
  go_loop [4] (fun vi => ∃ k : Nat, vi = .int .i64 k ∧ k ≤ n) (fun vi => n - (intOf vi).toNat)
  case atStart => exact ⟨0, rfl, Nat.zero_le _⟩
  case round =>
    obtain ⟨k, rfl, hk⟩ := hrel
    by_cases hkn : k < n
    · have hlt : k < l.length := by omega
      obtain ⟨c, hc⟩ : ∃ c : Nat, (⟨l.toArray⟩ : ByteArray)[k].toNat = c := ⟨_, rfl⟩
      have hc0 : c ≠ 47 := by rw [← hc]; exact HS1.out k hlt hkn
      have hc1 : ((c : Int) == 47) = false := by simp; omega
      have HKN := Lib.hid hkn
      clear hr1 hr2 hkn hk hc0
      go_wp2_with fail
      go_round
      case rel => exact ⟨k + 1, by go_num, by have := HKN.out; omega⟩
      case measure => simp [intOf]; have := HKN.out; omega
    · obtain rfl : k = n := by omega
      have hlt : k < l.length := hab
      have hc : (⟨l.toArray⟩ : ByteArray)[k].toNat = 47 := HS2.out
      have hne : ((k : Int) == (l.length : Int)) = false := by simp; omega
      clear hkn hk
      go_wp2_with fail
      refine (HIa.out _).mono ?_
      rintro e w' ⟨rfl, rfl⟩
      go_wp2
      first | go_ret | go_returns | go_ret2
      exact ⟨⟨_, rfl, Fv.zero _⟩, (On.refl w).alloc _⟩
set_option maxHeartbeats 2000000 in
theorem rread_b (a b : List UInt8) (w : World) (h47 : (47 : UInt8) ∉ a) (hl : (a ++ 47 :: b).length ≤ 9223372036854775806) (ta : textB a = true) (tb : textB b = false) :
    AnsF Try.prog 31 #[str (a ++ 47 :: b)] w 0 0 4 := by
  have hla : a.length ≤ 9223372036854775806 := by rw [List.length_append, List.length_cons] at hl; omega
  have hlb : b.length ≤ 9223372036854775806 := by rw [List.length_append, List.length_cons] at hl; omega
  have hab : a.length < (a ++ 47 :: b).length := by rw [List.length_append, List.length_cons]; omega
  have HIa := Lib.hid (fun w0 => rnatural_any a w0 (by omega))
  have HIb := Lib.hid (fun w0 => rnatural_any b w0 (by omega))
  rw [ta] at HIa
  rw [tb] at HIb
  have HS1 := Lib.hid (fun k h hk => (slash_at a b).1 k h hk h47)
  have HS2 := Lib.hid ((slash_at a b).2 hab)
  have hr1 := fun W => (slash_runs a b (by omega) W).1
  have hr2 := fun W => (slash_runs a b (by omega) W).2
  have HO1 : Hid (On w (w.alloc (.cells #[.slice none 0 0, .slice none 0 0] 41))) := (On.refl w).alloc _
  have HW1 : Hid (On (w.alloc (.cells #[.slice none 0 0, .slice none 0 0] 41)) (w.alloc (.cells #[.slice none 0 0, .slice none 0 0] 41))) := On.refl _
  unfold str at *
  generalize (a ++ 47 :: b) = l at *
  have hs : (⟨l.toArray⟩ : ByteArray).size = l.length := rfl
  generalize (⟨a.toArray⟩ : ByteArray) = sa at *
  generalize (⟨b.toArray⟩ : ByteArray) = sb at *
  generalize a.length = n at *
  clear h47
  go_enter Try.func31, Try.ntmps31
  go_wp2_with fail
  go_loop [4] (fun vi => ∃ k : Nat, vi = .int .i64 k ∧ k ≤ n) (fun vi => n - (intOf vi).toNat)
  case atStart => exact ⟨0, rfl, Nat.zero_le _⟩
  case round =>
    obtain ⟨k, rfl, hk⟩ := hrel
    by_cases hkn : k < n
    · have hlt : k < l.length := by omega
      obtain ⟨c, hc⟩ : ∃ c : Nat, (⟨l.toArray⟩ : ByteArray)[k].toNat = c := ⟨_, rfl⟩
      have hc0 : c ≠ 47 := by rw [← hc]; exact HS1.out k hlt hkn
      have hc1 : ((c : Int) == 47) = false := by simp; omega
      have HKN := Lib.hid hkn
      clear hr1 hr2 hkn hk hc0
      go_wp2_with fail
      go_round
      case rel => exact ⟨k + 1, by go_num, by have := HKN.out; omega⟩
      case measure => simp [intOf]; have := HKN.out; omega
    · obtain rfl : k = n := by omega
      have hlt : k < l.length := hab
      have hc : (⟨l.toArray⟩ : ByteArray)[k].toNat = 47 := HS2.out
      have hne : ((k : Int) == (l.length : Int)) = false := by simp; omega
      clear hkn hk
      go_wp2_with fail
      refine (HIa.out _).mono ?_
      rintro e w' ⟨rfl, rfl⟩
      go_wp2_with fail
      refine (HIb.out _).mono ?_
      rintro e w' ⟨rfl, rfl⟩
      go_wp2
      first | go_ret | go_returns | go_ret2
      exact ⟨⟨_, rfl, Fv.zero _⟩, (On.refl w).alloc _⟩
set_option maxHeartbeats 2000000 in
theorem rread_e1 (a b : List UInt8) (w : World) (h47 : (47 : UInt8) ∉ a) (hl : (a ++ 47 :: b).length ≤ 9223372036854775806) (N : Nat) (ta : textB a = true) (tb : textB b = true) (hpa : ∀ w0, AnsU Try.prog 29 #[str a] w0 N 3) :
    AnsF Try.prog 31 #[str (a ++ 47 :: b)] w 0 0 3 := by
  have hla : a.length ≤ 9223372036854775806 := by rw [List.length_append, List.length_cons] at hl; omega
  have hlb : b.length ≤ 9223372036854775806 := by rw [List.length_append, List.length_cons] at hl; omega
  have hab : a.length < (a ++ 47 :: b).length := by rw [List.length_append, List.length_cons]; omega
  have HIa := Lib.hid (fun w0 => rnatural_any a w0 (by omega))
  have HIb := Lib.hid (fun w0 => rnatural_any b w0 (by omega))
  rw [ta] at HIa
  rw [tb] at HIb
  have HS1 := Lib.hid (fun k h hk => (slash_at a b).1 k h hk h47)
  have HS2 := Lib.hid ((slash_at a b).2 hab)
  have hr1 := fun W => (slash_runs a b (by omega) W).1
  have hr2 := fun W => (slash_runs a b (by omega) W).2
  have HO1 : Hid (On w (w.alloc (.cells #[.slice none 0 0, .slice none 0 0] 41))) := (On.refl w).alloc _
  have HW1 : Hid (On (w.alloc (.cells #[.slice none 0 0, .slice none 0 0] 41)) (w.alloc (.cells #[.slice none 0 0, .slice none 0 0] 41))) := On.refl _
  unfold str at *
  generalize (a ++ 47 :: b) = l at *
  have hs : (⟨l.toArray⟩ : ByteArray).size = l.length := rfl
  generalize (⟨a.toArray⟩ : ByteArray) = sa at *
  generalize (⟨b.toArray⟩ : ByteArray) = sb at *
  generalize a.length = n at *
  clear h47
  have HPa := Lib.hid hpa
  clear hpa
  go_enter Try.func31, Try.ntmps31
  go_wp2_with fail
  go_loop [4] (fun vi => ∃ k : Nat, vi = .int .i64 k ∧ k ≤ n) (fun vi => n - (intOf vi).toNat)
  case atStart => exact ⟨0, rfl, Nat.zero_le _⟩
  case round =>
    obtain ⟨k, rfl, hk⟩ := hrel
    by_cases hkn : k < n
    · have hlt : k < l.length := by omega
      obtain ⟨c, hc⟩ : ∃ c : Nat, (⟨l.toArray⟩ : ByteArray)[k].toNat = c := ⟨_, rfl⟩
      have hc0 : c ≠ 47 := by rw [← hc]; exact HS1.out k hlt hkn
      have hc1 : ((c : Int) == 47) = false := by simp; omega
      have HKN := Lib.hid hkn
      clear hr1 hr2 hkn hk hc0
      go_wp2_with fail
      go_round
      case rel => exact ⟨k + 1, by go_num, by have := HKN.out; omega⟩
      case measure => simp [intOf]; have := HKN.out; omega
    · obtain rfl : k = n := by omega
      have hlt : k < l.length := hab
      have hc : (⟨l.toArray⟩ : ByteArray)[k].toNat = 47 := HS2.out
      have hne : ((k : Int) == (l.length : Int)) = false := by simp; omega
      clear hkn hk
      go_wp2_with fail
      refine (HIa.out _).mono ?_
      rintro e w' ⟨rfl, rfl⟩
      go_wp2_with fail
      refine (HIb.out _).mono ?_
      rintro e w' ⟨rfl, rfl⟩
      go_wp2_with fail
      refine (HPa.out _).mono ?_
      rintro e w2 ⟨⟨va, rfl, hva⟩, hO⟩
      have HVA := Lib.hid hva; have HO2 := Lib.hid (HW1.out.trans hO)
      clear hva hO
      obtain ⟨k1, k2, k3, k4, k5, k6, k7⟩ := res_facts HO2.out (.slice none 0 0) (.slice none 0 0)
      go_wp2
      (try simp only [Exit.inBlock, Exit.then])
      refine bodyPost_ret (by simp [results, Try.results31, go_sem, k6, k7]; try rfl) rfl ?_
      exact ⟨⟨_, rfl, (res_end HO2.out (Nv.nil _) (Nv.nil _)).1⟩, (res_end HO2.out (Nv.nil _) (Nv.nil _)).2⟩
set_option maxHeartbeats 2000000 in
theorem rread_e2 (a b : List UInt8) (w : World) (h47 : (47 : UInt8) ∉ a) (hl : (a ++ 47 :: b).length ≤ 9223372036854775806) (A N : Nat) (ta : textB a = true) (tb : textB b = true) (hpa : ∀ w0, AnsU Try.prog 29 #[str a] w0 A 0) (hpb : ∀ w0, AnsU Try.prog 29 #[str b] w0 N 3) :
    AnsF Try.prog 31 #[str (a ++ 47 :: b)] w 0 0 3 := by
  have hla : a.length ≤ 9223372036854775806 := by rw [List.length_append, List.length_cons] at hl; omega
  have hlb : b.length ≤ 9223372036854775806 := by rw [List.length_append, List.length_cons] at hl; omega
  have hab : a.length < (a ++ 47 :: b).length := by rw [List.length_append, List.length_cons]; omega
  have HIa := Lib.hid (fun w0 => rnatural_any a w0 (by omega))
  have HIb := Lib.hid (fun w0 => rnatural_any b w0 (by omega))
  rw [ta] at HIa
  rw [tb] at HIb
  have HS1 := Lib.hid (fun k h hk => (slash_at a b).1 k h hk h47)
  have HS2 := Lib.hid ((slash_at a b).2 hab)
  have hr1 := fun W => (slash_runs a b (by omega) W).1
  have hr2 := fun W => (slash_runs a b (by omega) W).2
  have HO1 : Hid (On w (w.alloc (.cells #[.slice none 0 0, .slice none 0 0] 41))) := (On.refl w).alloc _
  have HW1 : Hid (On (w.alloc (.cells #[.slice none 0 0, .slice none 0 0] 41)) (w.alloc (.cells #[.slice none 0 0, .slice none 0 0] 41))) := On.refl _
  unfold str at *
  generalize (a ++ 47 :: b) = l at *
  have hs : (⟨l.toArray⟩ : ByteArray).size = l.length := rfl
  generalize (⟨a.toArray⟩ : ByteArray) = sa at *
  generalize (⟨b.toArray⟩ : ByteArray) = sb at *
  generalize a.length = n at *
  clear h47
  have HPa := Lib.hid hpa
  clear hpa
  have HPb := Lib.hid hpb
  clear hpb
  go_enter Try.func31, Try.ntmps31
  go_wp2_with fail
  go_loop [4] (fun vi => ∃ k : Nat, vi = .int .i64 k ∧ k ≤ n) (fun vi => n - (intOf vi).toNat)
  case atStart => exact ⟨0, rfl, Nat.zero_le _⟩
  case round =>
    obtain ⟨k, rfl, hk⟩ := hrel
    by_cases hkn : k < n
    · have hlt : k < l.length := by omega
      obtain ⟨c, hc⟩ : ∃ c : Nat, (⟨l.toArray⟩ : ByteArray)[k].toNat = c := ⟨_, rfl⟩
      have hc0 : c ≠ 47 := by rw [← hc]; exact HS1.out k hlt hkn
      have hc1 : ((c : Int) == 47) = false := by simp; omega
      have HKN := Lib.hid hkn
      clear hr1 hr2 hkn hk hc0
      go_wp2_with fail
      go_round
      case rel => exact ⟨k + 1, by go_num, by have := HKN.out; omega⟩
      case measure => simp [intOf]; have := HKN.out; omega
    · obtain rfl : k = n := by omega
      have hlt : k < l.length := hab
      have hc : (⟨l.toArray⟩ : ByteArray)[k].toNat = 47 := HS2.out
      have hne : ((k : Int) == (l.length : Int)) = false := by simp; omega
      clear hkn hk
      go_wp2_with fail
      refine (HIa.out _).mono ?_
      rintro e w' ⟨rfl, rfl⟩
      go_wp2_with fail
      refine (HIb.out _).mono ?_
      rintro e w' ⟨rfl, rfl⟩
      go_wp2_with fail
      refine (HPa.out _).mono ?_
      rintro e w2 ⟨⟨va, rfl, hva⟩, hO⟩
      have HVA := Lib.hid hva; have HO2 := Lib.hid (HW1.out.trans hO)
      clear hva hO
      go_wp2_with fail
      refine (HPb.out w2).mono ?_
      rintro e w3 ⟨⟨vb, rfl, hvb⟩, hO⟩
      have HVB := Lib.hid hvb; have HVA3 := Lib.hid (HVA.out.on hO); have HO3 := Lib.hid (HO2.out.trans hO)
      clear hvb hO
      obtain ⟨k1, k2, k3, k4, k5, k6, k7⟩ := res_facts HO3.out (.slice none 0 0) (.slice none 0 0)
      go_wp2
      (try simp only [Exit.inBlock, Exit.then])
      refine bodyPost_ret (by simp [results, Try.results31, go_sem, k6, k7]; try rfl) rfl ?_
      exact ⟨⟨_, rfl, (res_end HO3.out (Nv.nil _) (Nv.nil _)).1⟩, (res_end HO3.out (Nv.nil _) (Nv.nil _)).2⟩
set_option maxHeartbeats 2000000 in
theorem rread_ok (a b : List UInt8) (w : World) (h47 : (47 : UInt8) ∉ a) (hl : (a ++ 47 :: b).length ≤ 9223372036854775806) (A B p q : Nat) (c : Int) (ta : textB a = true) (tb : textB b = true) (hpa : ∀ w0, AnsU Try.prog 29 #[str a] w0 A 0) (hpb : ∀ w0, AnsU Try.prog 29 #[str b] w0 B 0) (hnew : ∀ va vb w0, Nu w0 va A → Nu w0 vb B → AnsF Try.prog 42 #[va, vb] w0 p q c) :
    AnsF Try.prog 31 #[str (a ++ 47 :: b)] w p q c := by
  have hla : a.length ≤ 9223372036854775806 := by rw [List.length_append, List.length_cons] at hl; omega
  have hlb : b.length ≤ 9223372036854775806 := by rw [List.length_append, List.length_cons] at hl; omega
  have hab : a.length < (a ++ 47 :: b).length := by rw [List.length_append, List.length_cons]; omega
  have HIa := Lib.hid (fun w0 => rnatural_any a w0 (by omega))
  have HIb := Lib.hid (fun w0 => rnatural_any b w0 (by omega))
  rw [ta] at HIa
  rw [tb] at HIb
  have HS1 := Lib.hid (fun k h hk => (slash_at a b).1 k h hk h47)
  have HS2 := Lib.hid ((slash_at a b).2 hab)
  have hr1 := fun W => (slash_runs a b (by omega) W).1
  have hr2 := fun W => (slash_runs a b (by omega) W).2
  have HO1 : Hid (On w (w.alloc (.cells #[.slice none 0 0, .slice none 0 0] 41))) := (On.refl w).alloc _
  have HW1 : Hid (On (w.alloc (.cells #[.slice none 0 0, .slice none 0 0] 41)) (w.alloc (.cells #[.slice none 0 0, .slice none 0 0] 41))) := On.refl _
  unfold str at *
  generalize (a ++ 47 :: b) = l at *
  have hs : (⟨l.toArray⟩ : ByteArray).size = l.length := rfl
  generalize (⟨a.toArray⟩ : ByteArray) = sa at *
  generalize (⟨b.toArray⟩ : ByteArray) = sb at *
  generalize a.length = n at *
  clear h47
  have HPa := Lib.hid hpa
  clear hpa
  have HPb := Lib.hid hpb
  clear hpb
  have HNew := Lib.hid hnew
  clear hnew
  go_enter Try.func31, Try.ntmps31
  go_wp2_with fail
  go_loop [4] (fun vi => ∃ k : Nat, vi = .int .i64 k ∧ k ≤ n) (fun vi => n - (intOf vi).toNat)
  case atStart => exact ⟨0, rfl, Nat.zero_le _⟩
  case round =>
    obtain ⟨k, rfl, hk⟩ := hrel
    by_cases hkn : k < n
    · have hlt : k < l.length := by omega
      obtain ⟨c, hc⟩ : ∃ c : Nat, (⟨l.toArray⟩ : ByteArray)[k].toNat = c := ⟨_, rfl⟩
      have hc0 : c ≠ 47 := by rw [← hc]; exact HS1.out k hlt hkn
      have hc1 : ((c : Int) == 47) = false := by simp; omega
      have HKN := Lib.hid hkn
      clear hr1 hr2 hkn hk hc0
      go_wp2_with fail
      go_round
      case rel => exact ⟨k + 1, by go_num, by have := HKN.out; omega⟩
      case measure => simp [intOf]; have := HKN.out; omega
    · obtain rfl : k = n := by omega
      have hlt : k < l.length := hab
      have hc : (⟨l.toArray⟩ : ByteArray)[k].toNat = 47 := HS2.out
      have hne : ((k : Int) == (l.length : Int)) = false := by simp; omega
      clear hkn hk
      go_wp2_with fail
      refine (HIa.out _).mono ?_
      rintro e w' ⟨rfl, rfl⟩
      go_wp2_with fail
      refine (HIb.out _).mono ?_
      rintro e w' ⟨rfl, rfl⟩
      go_wp2_with fail
      refine (HPa.out _).mono ?_
      rintro e w2 ⟨⟨va, rfl, hva⟩, hO⟩
      have HVA := Lib.hid hva; have HO2 := Lib.hid (HW1.out.trans hO)
      clear hva hO
      go_wp2_with fail
      refine (HPb.out w2).mono ?_
      rintro e w3 ⟨⟨vb, rfl, hvb⟩, hO⟩
      have HVB := Lib.hid hvb; have HVA3 := Lib.hid (HVA.out.on hO); have HO3 := Lib.hid (HO2.out.trans hO)
      clear hvb hO
      go_wp2_with fail
      refine (HNew.out va vb w3 HVA3.out HVB.out).mono ?_
      rintro e w5 ⟨⟨v, rfl, ⟨vp, vz, rfl, hp, hz⟩⟩, hOn⟩
      have HP := Lib.hid hp; have HZ := Lib.hid hz; have HO5 := Lib.hid (HO3.out.trans hOn)
      obtain ⟨op, cp, rfl, -, -, -⟩ := hp
      obtain ⟨oz, cz, rfl, -, -, -⟩ := hz
      clear hOn
      obtain ⟨k1, k2, k3, k4, k5, k6, k7⟩ := res_facts HO5.out (.slice op (nl p) cp) (.slice oz (nl q) cz)
      go_wp2
      (try simp only [Exit.inBlock, Exit.then])
      refine bodyPost_ret (by simp [results, Try.results31, go_sem, k6, k7]; try rfl) rfl ?_
      exact ⟨⟨_, rfl, (res_end HO5.out HP.out HZ.out).1⟩, (res_end HO5.out HP.out HZ.out).2⟩
set_option maxHeartbeats 1000000 in
theorem rread_no (l : List UInt8) (w : World) (h47 : (47 : UInt8) ∉ l) (hl : l.length ≤ 9223372036854775806) : AnsF Try.prog 31 #[str l] w 0 0 4 := by
  have HS1 : Hid (∀ k (h : k < l.length), l[k].toNat ≠ 47) := fun k h e => h47 (by
    have : l[k] = 47 := UInt8.toNat_inj.1 (by rw [e]; rfl)
    rw [← this]; exact List.getElem_mem h)
  have hs : (⟨l.toArray⟩ : ByteArray).size = l.length := rfl
  unfold str
  clear h47
  go_enter Try.func31, Try.ntmps31
  go_wp2_with fail
  go_loop [4] (fun vi => ∃ k : Nat, vi = .int .i64 k ∧ k ≤ l.length) (fun vi => l.length - (intOf vi).toNat)
  case atStart => exact ⟨0, rfl, Nat.zero_le _⟩
  case round =>
    obtain ⟨k, rfl, hk⟩ := hrel
    by_cases hlt : k < l.length
    · obtain ⟨c, hc⟩ : ∃ c : Nat, (⟨l.toArray⟩ : ByteArray)[k].toNat = c := ⟨_, rfl⟩
      have hc0 : c ≠ 47 := by rw [← hc]; exact HS1.out k hlt
      have hc1 : ((c : Int) == 47) = false := by simp; omega
      clear hk hc0
      go_wp2_with fail
      go_round
      case rel => exact ⟨k + 1, by go_num, by omega⟩
      case measure => simp [intOf]; omega
    · obtain rfl : k = l.length := by omega
      clear hlt hk
      go_wp2_with fail
      first | go_ret | go_returns | go_ret2
      exact ⟨⟨_, rfl, Fv.zero _⟩, (On.refl w).alloc _⟩
theorem cut_slash : ∀ l : List UInt8, (47 : UInt8) ∉ l ∨ ∃ a b, l = a ++ 47 :: b ∧ (47 : UInt8) ∉ a := by
  intro l
  induction l with
  | nil => exact .inl (by simp)
  | cons c t ih =>
    by_cases h : c = 47
    · exact .inr ⟨[], t, by rw [h]; rfl, by simp⟩
    · rcases ih with ih | ⟨a, b, rfl, ih⟩
      · exact .inl (by simp [ih]; exact fun e => h e.symm)
      · exact .inr ⟨c :: a, b, rfl, by simp [ih]; exact fun e => h e.symm⟩
/-- Read, the program's and the document's own. -/
theorem read_pair (l : List UInt8) (hl : l.length ≤ 9223372036854775806) :
    ∃ p q c, (∀ w, AnsF Try.prog 30 #[str l] w p q c) ∧ ∀ w, AnsF Try.prog 31 #[str l] w p q c := by
  rcases cut_slash l with h47 | ⟨a, b, rfl, h47⟩
  · refine ⟨0, 0, 4, fun w => ?_, fun w => rread_no l w h47 hl⟩
    cases ht : textB l
    · exact pread_nof l w h47 (by omega) ht
    · exact pread_not l w h47 (by omega) ht
  · have hla : a.length ≤ 9223372036854775806 := by rw [List.length_append, List.length_cons] at hl; omega
    have hlb : b.length ≤ 9223372036854775806 := by rw [List.length_append, List.length_cons] at hl; omega
    cases ta : textB a
    · exact ⟨0, 0, 4, fun w => pread_a a b w h47 (by omega) ta, fun w => rread_a a b w h47 hl ta⟩
    · cases tb : textB b
      · exact ⟨0, 0, 4, fun w => pread_b a b w h47 (by omega) ta tb, fun w => rread_b a b w h47 hl ta tb⟩
      · obtain ⟨A, ca, pa1, pa2, pa3⟩ := parse_pair a (by omega)
        obtain ⟨B, cb, pb1, pb2, pb3⟩ := parse_pair b (by omega)
        rcases pa3 ta with ⟨rfl, hA⟩ | rfl
        · rcases pb3 tb with ⟨rfl, hB⟩ | rfl
          · obtain ⟨p, q, c, n1, n2⟩ := new_pair A B hA hB
            exact ⟨p, q, c, fun w => pread_ok a b w h47 (by omega) A B p q c ta tb pa1 pb1 n1, fun w => rread_ok a b w h47 hl A B p q c ta tb pa2 pb2 n2⟩
          · exact ⟨0, 0, 3, fun w => pread_e2 a b w h47 (by omega) A B ta tb pa1 pb1, fun w => rread_e2 a b w h47 hl A B ta tb pa2 pb2⟩
        · exact ⟨0, 0, 3, fun w => pread_e1 a b w h47 (by omega) A ta tb pa1, fun w => rread_e1 a b w h47 hl A ta tb pa2⟩
end Go.Proofs.Ytdgmlmcllkgemaa

/- The document's own Same of fractions; the walk of RatioTexts. -/
namespace Go.Proofs.Ytdgmlmcllkgemaa
open Go.RowKit
set_option linter.unusedVariables false

set_option maxHeartbeats 1000000 in
theorem rfsame (vx vy : Value) (p q : Nat) (w : World) (hx : Fv w vx p q) (hy : Fv w vy p q) : AnsE Try.prog 34 #[vx, vy] w (.bool true) := by
  obtain ⟨vxp, vxq, rfl, hxp, hxq⟩ := hx
  obtain ⟨vyp, vyq, rfl, hyp, hyq⟩ := hy
  have HXP := Lib.hid hxp; have HXQ := Lib.hid hxq; have HYP := Lib.hid hyp; have HYQ := Lib.hid hyq
  obtain ⟨o1, c1, rfl, -, -, -⟩ := hxp
  obtain ⟨o2, c2, rfl, -, -, -⟩ := hxq
  obtain ⟨o3, c3, rfl, -, -, -⟩ := hyp
  obtain ⟨o4, c4, rfl, -, -, -⟩ := hyq
  have hF4 := box_two w (.slice o1 (nl p) c1) (.slice o2 (nl q) c2) (.slice o3 (nl p) c3) (.slice o4 (nl q) c4)
  have HO3 : Hid (On w ((w.alloc (.cells #[.slice o1 (nl p) c1, .slice o2 (nl q) c2] 41)).alloc (.cells #[.slice o3 (nl p) c3, .slice o4 (nl q) c4] 41))) := ((On.refl w).alloc _).alloc _
  obtain ⟨u, hu⟩ : ∃ u, u = (w.alloc (.cells #[.slice o1 (nl p) c1, .slice o2 (nl q) c2] 41)).alloc (.cells #[.slice o3 (nl p) c3, .slice o4 (nl q) c4] 41) := ⟨_, rfl⟩
  have HU := Lib.hid hu
  rw [← hu] at hF4 HO3
  obtain ⟨f1, f2, f3, f4⟩ := hF4
  have HF := Lib.hid (And.intro f1 (And.intro f2 (And.intro f3 f4)))
  clear hu
  go_enter Try.func34, Try.ntmps34
  go_wp2_with (go_at_call 18; rw [← HU.out])
  refine (same_nv _ _ p u (HXP.out.on HO3.out) (HYP.out.on HO3.out)).mono ?_
  rintro e w2 ⟨rfl, hO⟩
  clear f1 f2 f3 f4
  obtain ⟨f1, f2, f3, f4⟩ := four_on HF.out hO
  have HO2 := Lib.hid (HO3.out.trans hO)
  clear hO
  go_wp2_with fail
  refine (same_nv _ _ q w2 (HXQ.out.on HO2.out) (HYQ.out.on HO2.out)).mono ?_
  rintro e w3 ⟨rfl, hO⟩
  have HO5 := Lib.hid (HO2.out.trans hO)
  clear hO
  go_wp2
  go_ret
  exact ⟨rfl, HO5.out⟩
set_option maxHeartbeats 2000000 in
set_option maxRecDepth 100000 in
theorem texts_any (n : Nat) (l : List UInt8) (w : World) (hn : n ≤ 18446744073709551615) (hl : l.length ≤ 9223372036854775807) :
    Calls Try.prog 4 #[.int .u64 (n : Int), str l] w fun e w' => e = .returned (.bool true) ∧ On w w' := by
  obtain ⟨k, hk⟩ : ∃ k, k = min l.length 800 := ⟨_, rfl⟩
  have hs : (⟨l.toArray⟩ : ByteArray).size = l.length := rfl
  have hk0 : min ((l.length : Nat) : Int) 800 = (k : Int) := by omega
  obtain ⟨t, ht⟩ : ∃ t, t = l.take k := ⟨_, rfl⟩
  have htl : t.length ≤ 800 := by rw [ht, List.length_take]; omega
  have hrun : ∀ W : World, (Instr.slice 9 (.string ⟨l.toArray⟩) none (some (.int .i64 (k : Int))) none).run Try.prog W = .ok (.string ⟨t.toArray⟩) W := fun W => by
    rw [run_slice_string_to_if (P := Try.prog) (w := W) 9 _ .i64 _ Try.underlying9]
    rw [if_pos (by rw [hs]; omega)]
    rw [Int.toNat_natCast, extract_str, ht]
    simp
  clear ht hk
  obtain ⟨N, c1, pp1, pp2, -⟩ := parse_pair t (by omega)
  obtain ⟨p, q, c2, pr1, pr2⟩ := read_pair t (by omega)
  have PP1 := Lib.hid pp1; have PP2 := Lib.hid pp2; have PR1 := Lib.hid pr1; have PR2 := Lib.hid pr2
  have PN := Lib.hid (fun W => nat_pair n hn W)
  clear pp1 pp2 pr1 pr2 hn htl
  unfold str at *
  obtain ⟨ts, hts⟩ : ∃ ts : ByteArray, ts = ⟨t.toArray⟩ := ⟨_, rfl⟩
  rw [← hts] at PP1 PP2 PR1 PR2 hrun
  clear hts
  go_enter Try.func4, Try.ntmps4
  go_wp2_with fail
  refine (PP1.out _).mono ?_
  rintro e w1 ⟨⟨v1, rfl, h1⟩, hO⟩
  have HX := Lib.hid hO; have RA := Lib.hid h1
  clear hO h1
  go_wp2_with fail
  refine (PP2.out _).n.mono ?_
  rintro e w2 ⟨⟨v2, rfl, h2⟩, hO⟩
  have HX := Lib.hid (HX.out.trans hO); have RA := Lib.hid (RA.out.on hO); have RB := Lib.hid h2
  clear hO h2
  go_wp2_with fail
  refine (PR1.out _).mono ?_
  rintro e w3 ⟨⟨v3, rfl, h3⟩, hO⟩
  have HX := Lib.hid (HX.out.trans hO); have RA := Lib.hid (RA.out.on hO); have RB := Lib.hid (RB.out.on hO); have RX := Lib.hid h3
  obtain ⟨u1, u2, rfl, g1, g2⟩ := h3
  obtain ⟨o1, d1, rfl, -, -, -⟩ := g1
  obtain ⟨o2, d2, rfl, -, -, -⟩ := g2
  have HB1 := Lib.hid (box_at w3 (.slice o1 (nl p) d1) (.slice o2 (nl q) d2))
  have hA := (On.refl w3).alloc (.cells #[.slice o1 (nl p) d1, .slice o2 (nl q) d2] 41)
  have HX := Lib.hid (HX.out.trans hA); have RA := Lib.hid (RA.out.on hA); have RB := Lib.hid (RB.out.on hA); have RX := Lib.hid (RX.out.on hA)
  clear hO hA
  go_wp2_with fail
  refine (PR2.out _).mono ?_
  rintro e w4 ⟨⟨v4, rfl, h4⟩, hO⟩
  have HX := Lib.hid (HX.out.trans hO); have RA := Lib.hid (RA.out.on hO); have RB := Lib.hid (RB.out.on hO); have RX := Lib.hid (RX.out.on hO); have RY := Lib.hid h4
  have HB1 := Lib.hid (two_on HB1.out hO)
  obtain ⟨u3, u4, rfl, g3, g4⟩ := h4
  obtain ⟨o3, d3, rfl, -, -, -⟩ := g3
  obtain ⟨o4, d4, rfl, -, -, -⟩ := g4
  have HB2 := Lib.hid (box_at w4 (.slice o3 (nl p) d3) (.slice o4 (nl q) d4))
  have hA := (On.refl w4).alloc (.cells #[.slice o3 (nl p) d3, .slice o4 (nl q) d4] 41)
  have HX := Lib.hid (HX.out.trans hA); have RA := Lib.hid (RA.out.on hA); have RB := Lib.hid (RB.out.on hA); have RX := Lib.hid (RX.out.on hA); have RY := Lib.hid (RY.out.on hA)
  have HB1 := Lib.hid (two_on HB1.out hA)
  clear hO hA
  go_wp2_with fail
  refine (PN.out _).1.mono ?_
  rintro e w5 ⟨⟨v5, rfl, h5⟩, hO⟩
  have HX := Lib.hid (HX.out.trans hO); have RA := Lib.hid (RA.out.on hO); have RB := Lib.hid (RB.out.on hO); have RX := Lib.hid (RX.out.on hO); have RY := Lib.hid (RY.out.on hO)
  have HB1 := Lib.hid (two_on HB1.out hO); have HB2 := Lib.hid (two_on HB2.out hO); have RN := Lib.hid h5
  clear hO h5
  go_wp2_with fail
  refine (PN.out _).2.mono ?_
  rintro e w6 ⟨⟨v6, rfl, h6⟩, hO⟩
  have HX := Lib.hid (HX.out.trans hO); have RA := Lib.hid (RA.out.on hO); have RB := Lib.hid (RB.out.on hO); have RX := Lib.hid (RX.out.on hO); have RY := Lib.hid (RY.out.on hO)
  have HB1 := Lib.hid (two_on HB1.out hO); have HB2 := Lib.hid (two_on HB2.out hO); have RN := Lib.hid (RN.out.on hO); have RM := Lib.hid h6
  clear hO h6
  go_wp2_with fail
  refine (same_nv _ _ n w6 RN.out RM.out).mono ?_
  rintro e w7 ⟨rfl, hO⟩
  have HX := Lib.hid (HX.out.trans hO); have RA := Lib.hid (RA.out.on hO); have RB := Lib.hid (RB.out.on hO); have RX := Lib.hid (RX.out.on hO); have RY := Lib.hid (RY.out.on hO)
  have HB1 := Lib.hid (two_on HB1.out hO); have HB2 := Lib.hid (two_on HB2.out hO)
  clear hO
  go_wp2_with fail
  refine (same_nv _ _ N w7 RA.out RB.out).mono ?_
  rintro e w8 ⟨rfl, hO⟩
  have HX := Lib.hid (HX.out.trans hO); have RX := Lib.hid (RX.out.on hO); have RY := Lib.hid (RY.out.on hO)
  obtain ⟨b1, b2⟩ := two_on HB1.out hO
  obtain ⟨b3, b4⟩ := two_on HB2.out hO
  clear hO
  go_wp2_with fail
  refine (rfsame _ _ p q w8 RX.out RY.out).mono ?_
  rintro e w9 ⟨rfl, hO⟩
  have HX := Lib.hid (HX.out.trans hO)
  clear hO b1 b2 b3 b4
  go_wp2_with fail
  refine (works_any _).mono ?_
  rintro e w10 ⟨rfl, hO⟩
  have HX := Lib.hid (HX.out.trans hO)
  clear hO
  go_wp2
  go_ret
  exact ⟨rfl, HX.out⟩
end Go.Proofs.Ytdgmlmcllkgemaa

/- The document's own Valid of a fraction. -/
namespace Go.Proofs.Ytdgmlmcllkgemaa
open Go.RowKit
set_option linter.unusedVariables false

theorem rsamed_any (va vb : Value) (x y : Nat) (w : World) (ha : Nv w va x) (hb : Nv w vb y) :
    Calls Try.prog 18 #[va, vb] w fun e w' => e = .returned (.bool (decide (x = y))) ∧ ∃ n, w' = w.drewN n := by
  obtain ⟨oa, ca, rfl, h1, h2, hR⟩ := ha
  obtain ⟨ob, cb, rfl, h3, h4, hS⟩ := hb
  by_cases hl : nl x = nl y
  · have hlx := lt_nl x
    have hly := lt_nl y
    rw [← hl] at hS hly ⊢
    have hm : nl x ≤ 9223372036854775807 := by omega
    clear hl h1 h2 h3 h4
    generalize nl x = m at *
    have HLX := Lib.hid hlx; have HLY := Lib.hid hly; clear hlx hly
    have HR := Lib.hid hR; have HS := Lib.hid hS; clear hR hS
    go_enter Try.func18, Try.ntmps18
    go_hidden (go_wp2)
    go_loopw [5] (fun vi wr => ∃ k n : Nat, vi = .int .i64 (k : Int) ∧ k ≤ m ∧ Hid (∀ j, j < k → dg (x : Int) j = dg (y : Int) j) ∧ Hid (wr = w.drewN n)) (fun vi _ => m - (intOf vi).toNat)
    case atStart => exact ⟨0, 0, rfl, Nat.zero_le _, fun j h => by omega, rfl⟩
    case round =>
      obtain ⟨k, n, rfl, hk, HE, HW⟩ := hrel
      by_cases hlt : k < m
      · obtain ⟨b, off, rfl, hc⟩ := HR.out.drewN n k hlt
        obtain ⟨b', off', rfl, hc'⟩ := HS.out.drewN n k hlt
        rw [← HW.out] at hc hc'
        obtain ⟨a, hae⟩ : ∃ a, a = dg (x : Int) k := ⟨_, rfl⟩
        obtain ⟨d, hde⟩ : ∃ d, d = dg (y : Int) k := ⟨_, rfl⟩
        rw [← hae] at hc
        rw [← hde] at hc'
        have HA := Lib.hid hae; have HD := Lib.hid hde; clear hae hde
        by_cases had : a = d
        · have hne : ((a : Int) == (d : Int)) = true := by simp; omega
          have HE2 : Hid (∀ j, j < k + 1 → dg (x : Int) j = dg (y : Int) j) := fun j hj => by
            by_cases h : j = k
            · subst h; rw [← HA.out, ← HD.out]; exact had
            · exact HE.out j (by omega)
          clear had
          go_wp2
          go_quiet (fail)
          go_wp2
          go_roundw
          case rel => exact ⟨k + 1, n + nq, by go_num, by omega, HE2, by unfold Hid; rw [HW.out]; exact World.drewN_drewN _ _ _⟩
          case measure => simp [intOf]; omega
        · have hne : ((a : Int) == (d : Int)) = false := by simp; omega
          have HF : Hid (decide (x = y) = false) := decide_eq_false (fun h => had (by rw [HA.out, HD.out, h]))
          clear had
          go_wp2
          go_quiet (fail)
          go_wp2
          go_ret
          exact ⟨ret_bool HF.out.symm, _, by rw [HW.out, World.drewN_drewN]⟩
      · obtain rfl : k = m := by omega
        have HT : Hid (decide (x = y) = true) := decide_eq_true (nat_eq_of_dg HLX.out HLY.out HE.out)
        go_wp2
        go_ret
        exact ⟨ret_bool HT.out.symm, n, HW.out⟩
  · have hne : (((nl x : Nat) : Int) == ((nl y : Nat) : Int)) = false := by simp; omega
    have HF : Hid (decide (x = y) = false) := decide_eq_false (fun h => hl (by rw [h]))
    clear hR hS hl
    go_enter Try.func18, Try.ntmps18
    go_wp2
    go_ret
    exact ⟨ret_bool HF.out.symm, 0, rfl⟩
theorem rsamed_on (va vb : Value) (x y : Nat) (w : World) (ha : Nv w va x) (hb : Nv w vb y) :
    Calls Try.prog 18 #[va, vb] w fun e w' => e = .returned (.bool (decide (x = y))) ∧ On w w' :=
  (rsamed_any va vb x y w ha hb).mono fun e w' ⟨h1, n, h2⟩ => ⟨h1, h2 ▸ (On.refl w).drewN n⟩

theorem box_x (w : World) (a b : Value) : (w.alloc (.cells #[a, b] 41)).cell? ⟨w.heap.size, 0, none⟩ = some a ∧ (w.alloc (.cells #[a, b] 41)).cell? ⟨w.heap.size, 1, none⟩ = some b := by
  refine ⟨?_, ?_⟩
  all_goals rw [World.cell?_alloc_at _ _ _ _ rfl]; rfl
/-- A fraction as it may come in: two lists of limbs. -/
def Gz (w : World) (v : Value) (m p n q : Nat) : Prop := ∃ vp vq, v = .agg #[vp, vq] ∧ Lz w vp m p ∧ Lz w vq n q
theorem Gz.on {w w' : World} {v : Value} {m p n q : Nat} (h : Gz w v m p n q) (k : On w w') : Gz w' v m p n q := by
  obtain ⟨vp, vq, h1, h2, h3⟩ := h
  exact ⟨vp, vq, h1, h2.on k, h3.on k⟩
theorem Gz.gv {w : World} {v : Value} {m p n q : Nat} (h : Gz w v m p n q) : Gv w v m p n q := by
  obtain ⟨vp, vq, h1, h2, h3⟩ := h
  exact ⟨vp, vq, h1, h2.1, h3.1⟩
set_option maxHeartbeats 4000000 in
theorem rvalidF_any (v : Value) (m p n q : Nat) (w : World) (h : Gz w v m p n q) (hp : p < 4294967296 ^ m) (hq : q < 4294967296 ^ n) :
    Calls Try.prog 36 #[v] w fun e w' => e = .returned (.bool (okF m p n q)) ∧ On w w' := by
  obtain ⟨vp, vq, rfl, hP, hQ⟩ := h
  obtain ⟨op, cp, rfl, -, -, -⟩ := id hP.1
  obtain ⟨oq, cq, rfl, -, -, -⟩ := id hQ.1
  have HX := Lib.hid hp; have HY := Lib.hid hq; clear hp hq
  have hO : On w (w.alloc (.cells #[.slice op m cp, .slice oq n cq] 41)) := (On.refl w).alloc _
  have HP := Lib.hid (hP.on hO); have HQ := Lib.hid (hQ.on hO); have HO := Lib.hid hO
  have HF2 := Lib.hid (box_x w (.slice op m cp) (.slice oq n cq))
  clear hP hQ hO
  obtain ⟨u, hu⟩ : ∃ u, u = w.alloc (.cells #[.slice op m cp, .slice oq n cq] 41) := ⟨_, rfl⟩
  have HU := Lib.hid hu
  rw [← hu] at HP HQ HO HF2
  clear hu
  have HA1 := Lib.hid (rvalid_lv (.slice op m cp) m p u HP.out.1 HX.out)
  have HA2 := Lib.hid (rvalid_lv (.slice oq n cq) n q u HQ.out.1 HY.out)
  cases hv1 : okB m p
  · have HF : Hid (okF m p n q = false) := by unfold Hid okF; rw [hv1]; rfl
    rw [HF.out]
    rw [hv1] at HA1
    clear hv1
    go_enter Try.func36, Try.ntmps36
    go_wp2_with (go_at_call 11; rw [← HU.out]; refine HA1.out.mono ?_; rintro e w' ⟨rfl, rfl⟩)
    go_ret
    exact ⟨rfl, HO.out⟩
  cases hv2 : okB n q
  · have HF : Hid (okF m p n q = false) := by unfold Hid okF; rw [hv1, hv2]; rfl
    rw [HF.out]
    rw [hv1] at HA1; rw [hv2] at HA2
    clear hv1 hv2
    obtain ⟨f1, f2⟩ := HF2.out
    go_enter Try.func36, Try.ntmps36
    go_wp2_with (go_at_call 11; (first | (rw [← HU.out]; refine HA1.out.mono ?_; rintro e w' ⟨rfl, rfl⟩) | (refine HA2.out.mono ?_; rintro e w' ⟨rfl, rfl⟩)))
    go_ret
    exact ⟨rfl, HO.out⟩
  · obtain ⟨⟨rfl, hpm⟩, rfl, hqm⟩ := oks_true (show (okB m p && okB n q) = true by rw [hv1, hv2]; rfl)
    rcases Nat.eq_zero_or_pos q with h0 | h0
    · subst h0
      have HF : Hid (okF (nl p) p (nl 0) 0 = false) := by unfold Hid okF; simp
      rw [HF.out]
      rw [hv1] at HA1; rw [hv2] at HA2
      clear hv1 hv2 hqm
      rw [nl_zero] at HQ HY HA2 HF2 HU ⊢
      obtain ⟨f1, f2⟩ := HF2.out
      go_enter Try.func36, Try.ntmps36
      go_wp2_with (go_at_call 11; (first | (rw [← HU.out]; refine HA1.out.mono ?_; rintro e w' ⟨rfl, rfl⟩) | (refine HA2.out.mono ?_; rintro e w' ⟨rfl, rfl⟩)))
      go_ret
      exact ⟨rfl, HO.out⟩
    · have hn0 := nl_pos h0
      have hz : decide (0 < ((nl q : Nat) : Int)) = true := by simp; omega
      have HF : Hid (okF (nl p) p (nl q) q = decide (Nat.gcd p q = 1)) := by unfold Hid okF; rw [hv1, hv2]; simp [h0]
      rw [HF.out]
      rw [hv1] at HA1; rw [hv2] at HA2
      clear hv1 hv2
      obtain ⟨f1, f2⟩ := HF2.out
      have HG1 := Lib.hid (rgcd_any _ _ p q u HP.out HQ.out (by omega) (by omega))
      generalize hnp : nl p = np at *
      generalize hnq : nl q = nq at *
      have HNP := Lib.hid hnp; have HNQ := Lib.hid hnq
      clear hnp hnq
      go_enter Try.func36, Try.ntmps36
      go_wp2_with (first
        | (go_at_call 11; (first | (rw [← HU.out]; refine HA1.out.mono ?_; rintro e w' ⟨rfl, rfl⟩) | (refine HA2.out.mono ?_; rintro e w' ⟨rfl, rfl⟩)))
        | (go_at_call 69; refine HG1.out.mono ?_; rintro e w2 ⟨⟨vg, rfl, hg⟩, hOn⟩; have HG := Lib.hid hg.1.1; have HO2 := Lib.hid hOn; clear hg hOn)
        | (go_at_call 18; refine (rsamed_on _ _ (Nat.gcd p q) 1 _ (HG.out.on ((On.refl _).alloc _)) (one_nv w2 _ 1 rfl (by decide) (by decide))).mono ?_; rintro e w3 ⟨rfl, hOn⟩; have HO3 := Lib.hid hOn; clear hOn))
      go_ret
      exact ⟨rfl, (HO.out.trans (HO2.out.alloc _)).trans HO3.out⟩
end Go.Proofs.Ytdgmlmcllkgemaa
