/- Text of package ratio. -/
import Derived.Test.YtdgmlmcllkgemaaRev
namespace Go.Proofs.Ytdgmlmcllkgemaa
open Go.RowKit
set_option linter.unusedVariables false

theorem Text_bad (v : Value) (m x : Nat) (w : World) (h : Lv w v m (x : Int)) (hx : x < 4294967296 ^ m) (hk : okB m x = false) :
    Calls Try.prog 14 #[v] w fun e w' => e = .returned (str []) ∧ w = w' := by
  have H := Lib.hid h; have HX := Lib.hid hx; have HK := Lib.hid hk
  clear h hx hk
  go_enter Try.func14, Try.ntmps14
  go_wp2_with (go_at_call 10; refine (valid_lv _ _ _ _ H.out HX.out).mono ?_; rw [HK.out]; rintro e w' ⟨rfl, rfl⟩)
  go_ret
  exact ⟨rfl, rfl⟩

/-- A round of Text, in digits. -/
theorem text_more {x j : Nat} : lo (9 * j) x ++ lo (max 9 (ndz (x / 10 ^ (9 * j) % 1000000000))) (x / 10 ^ (9 * j) % 1000000000) = lo (9 * (j + 1)) x ∧ x / 10 ^ (9 * j) / 1000000000 = x / 10 ^ (9 * (j + 1)) := by
  have h1 : ndz (x / 10 ^ (9 * j) % 1000000000) ≤ 9 := (ndz_le _ _).2 (Nat.mod_lt _ (by decide))
  rw [show max 9 (ndz (x / 10 ^ (9 * j) % 1000000000)) = 9 by omega, show 9 * (j + 1) = 9 * j + 9 by omega, lo_append, ← lo_mod 9 (x / 10 ^ (9 * j)), Nat.div_div_eq_div_mul, Nat.pow_add]
  exact ⟨rfl, rfl⟩
theorem text_last {x j : Nat} (hj : 0 < j → 0 < x / 10 ^ (9 * j)) (hq : x / 10 ^ (9 * j) / 1000000000 = 0) : (lo (9 * j) x ++ lo (max 1 (ndz (x / 10 ^ (9 * j) % 1000000000))) (x / 10 ^ (9 * j) % 1000000000)).reverse = dec x := by
  have hlt : x / 10 ^ (9 * j) < 1000000000 := by omega
  rw [Nat.mod_eq_of_lt hlt, ← lo_append]
  unfold dec
  congr 2
  unfold nd
  rcases Nat.eq_zero_or_pos j with h0 | h0
  · subst h0; simp
  · rw [ndz_div (hj h0)]
    have := ndz_pos (hj h0)
    omega
theorem dec_len (x : Nat) (hx : nl x ≤ 64) : (dec x).length ≤ 700 ∧ 0 < (dec x).length := by
  unfold dec nd
  rw [List.length_reverse, lo_len]
  have h1 := (nl_le _ _).1 hx
  have h2 : ndz x ≤ 640 + 60 := by
    rw [ndz_le]
    exact Nat.lt_of_lt_of_le h1 (by decide +kernel)
  omega
theorem lo_bound (x j : Nat) (hx : nl x ≤ 64) (hj : 0 < x / 10 ^ (9 * j)) : 9 * j ≤ 700 := by
  have h1 := (nl_le _ _).1 hx
  have h2 : ndz x ≤ 700 := by
    rw [ndz_le]
    exact Nat.lt_of_lt_of_le h1 (by decide +kernel)
  have := ndz_div hj
  omega
theorem OwnsB.row {B : Nat} {w : World} {v : Value} {l : List UInt8} (h : OwnsB B w v l) (hl : 0 < l.length) : ∃ g cap, v = .slice (some ⟨g, 0, none⟩) l.length cap ∧ l.length ≤ cap ∧ B ≤ g ∧ g < w.heap.size ∧ ByteRow w g l ∧ ∀ k, w.frozen? ⟨g, k, none⟩ = false := by
  rcases id h.2 with ⟨h1, h2⟩ | ⟨g, cap, cur, rfl, hg, hh, hlc, _, _, hx⟩
  · omega
  · refine ⟨g, cap, rfl, hlc, hg, (Array.getElem?_eq_some_iff.1 hh).1, fun k hk => ?_, fun k => World.ownsRow.frozenAt h k⟩
    have h0 : (cur.toList.take (l.length * 1))[k]? = (bytesV l)[k]? := by rw [hx]
    rw [List.getElem?_take, if_pos (by omega)] at h0
    unfold World.cell?
    rw [Nat.zero_add, hh]
    have : (bytesV l)[k]? = some (.int .u8 ((l.getD k 0).toNat : Int)) := by
      unfold bytesV; rw [List.getElem?_map, List.getElem?_eq_getElem hk, List.getD_eq_getElem?_getD, List.getElem?_eq_getElem hk]; rfl
    rw [this] at h0
    simpa using h0
theorem On.low {W w w' : World} (h : On W w) (k : Below W.heap.size w w') : On W w' := Below.trans h k
theorem write_1 (Bv n : Nat) (v0 : Value) (l0 : List UInt8) (w : World) (hn : n ≤ 18446744073709551615) (hc : w.cell? ⟨Bv, 0, none⟩ = some v0) (hf : w.frozen? ⟨Bv, 0, none⟩ = false) (hown : OwnsB (Bv + 1) w v0 l0) (h0 : l0.length ≤ 10000) (hnil : l0 = [] → v0 = .slice none 0 0) :
    Calls Try.prog 55 #[.int .u64 (n : Int), .int .i64 1, .pointer (some ⟨Bv, 0, none⟩)] w fun e w' => (∃ u, e = .returned u) ∧ ∃ v, w'.cell? ⟨Bv, 0, none⟩ = some v ∧ w'.frozen? ⟨Bv, 0, none⟩ = false ∧ OwnsB (Bv + 1) w' v (l0 ++ lo (max 1 (ndz n)) n) ∧ Below Bv w w' ∧ Keep32 w w' :=
  write_any Bv n 1 v0 l0 w hn (by decide) hc hf hown h0 hnil (fun z e => by obtain ⟨a, c, h⟩ := hown.shape; rw [h] at e; cases e)
theorem write_9 (Bv n : Nat) (v0 : Value) (l0 : List UInt8) (w : World) (hn : n ≤ 18446744073709551615) (hc : w.cell? ⟨Bv, 0, none⟩ = some v0) (hf : w.frozen? ⟨Bv, 0, none⟩ = false) (hown : OwnsB (Bv + 1) w v0 l0) (h0 : l0.length ≤ 10000) (hnil : l0 = [] → v0 = .slice none 0 0) :
    Calls Try.prog 55 #[.int .u64 (n : Int), .int .i64 9, .pointer (some ⟨Bv, 0, none⟩)] w fun e w' => (∃ u, e = .returned u) ∧ ∃ v, w'.cell? ⟨Bv, 0, none⟩ = some v ∧ w'.frozen? ⟨Bv, 0, none⟩ = false ∧ OwnsB (Bv + 1) w' v (l0 ++ lo (max 9 (ndz n)) n) ∧ Below Bv w w' ∧ Keep32 w w' :=
  write_any Bv n 9 v0 l0 w hn (by decide) hc hf hown h0 hnil (fun z e => by obtain ⟨a, c, h⟩ := hown.shape; rw [h] at e; cases e)
theorem back_run (w : World) (g cap : Nat) (l : List UInt8) (n : Nat) (hn : n = l.length) (hc : ByteRow w g l) :
    (convert 58 9 (.slice (some ⟨g, 0, none⟩) n cap)).run Try.prog w = .ok (.string ⟨l.toArray⟩) w := by
  subst hn
  refine run_convert_bytes_back w 58 9 5 ⟨g, 0, none⟩ cap l Try.underlying58 Try.underlying5 Try.underlying9 (fun j hj => ?_)
  have := hc j hj
  rw [List.getD_eq_getElem?_getD, List.getElem?_eq_getElem hj] at this
  rw [show (⟨g, 0, none⟩ : Addr).add j = ⟨g, 0 + j, none⟩ by unfold Addr.add; split <;> simp_all]
  exact this
set_option maxHeartbeats 2000000 in
theorem Text_yes (v : Value) (x : Nat) (w : World) (h : Nv w v x) (hx : nl x ≤ 64) :
    Calls Try.prog 14 #[v] w fun e w' => e = .returned (str (dec x)) ∧ On w w' := by
  have H : Hid (Lv w v (nl x) (x : Int)) := h
  have HX := Lib.hid (lt_nl x)
  have HK : Hid (okB (nl x) x = true) := by unfold Hid; rw [okB_nl]; simp [hx]
  have hO1 : On w (w.alloc (.cells #[.slice none 0 0] 58)) := (On.refl w).alloc _
  have hc0 : (w.alloc (.cells #[.slice none 0 0] 58)).cell? ⟨w.heap.size, 0, none⟩ = some (.slice none 0 0) := by rw [World.cell?_alloc_new]; rfl
  have hf0 : (w.alloc (.cells #[.slice none 0 0] 58)).frozen? ⟨w.heap.size, 0, none⟩ = false := World.frozen?_alloc_new ..
  have HST : Hid (Nv (w.alloc (.cells #[.slice none 0 0] 58)) v (x / 10 ^ (9 * 0)) ∧ (∃ dv, (w.alloc (.cells #[.slice none 0 0] 58)).cell? ⟨w.heap.size, 0, none⟩ = some dv ∧ (w.alloc (.cells #[.slice none 0 0] 58)).frozen? ⟨w.heap.size, 0, none⟩ = false ∧ OwnsB (w.heap.size + 1) (w.alloc (.cells #[.slice none 0 0] 58)) dv (lo (9 * 0) x) ∧ (lo (9 * 0) x = [] → dv = .slice none 0 0)) ∧ On w (w.alloc (.cells #[.slice none 0 0] 58))) :=
    ⟨by rw [Nat.mul_zero, Nat.pow_zero, Nat.div_one]; exact h.on hO1, ⟨_, hc0, hf0, OwnsB.nil _ _, fun _ => rfl⟩, hO1⟩
  clear h hO1 hc0 hf0
  go_enter Try.func14, Try.ntmps14
  go_hidden (go_wp2_with (go_at_call 10; refine (valid_lv _ _ _ _ H.out HX.out).mono ?_; rw [HK.out]; rintro e w' ⟨rfl, rfl⟩))
  go_loopw [0] (fun v0 wr => ∃ j : Nat, nl (x / 10 ^ (9 * j)) ≤ 64 ∧ Hid (0 < j → 0 < x / 10 ^ (9 * j)) ∧ Hid (Nv wr v0 (x / 10 ^ (9 * j)) ∧ (∃ dv, wr.cell? ⟨w.heap.size, 0, none⟩ = some dv ∧ wr.frozen? ⟨w.heap.size, 0, none⟩ = false ∧ OwnsB (w.heap.size + 1) wr dv (lo (9 * j) x) ∧ (lo (9 * j) x = [] → dv = .slice none 0 0)) ∧ On w wr)) (fun v0 wr => natOf wr v0)
  case atStart => exact ⟨0, Nat.le_trans (nl_mono (Nat.div_le_self _ _)) hx, fun h => by omega, HST⟩
  case round =>
    clear HST
    obtain ⟨j, hA, HJ, HW⟩ := hrel
    obtain ⟨hv0, ⟨dv, hcd, hfd, hod, hnd⟩, hOn⟩ := HW.out
    clear HW
    have HV0 := Lib.hid hv0
    obtain ⟨oa, ca, rfl, -, -, -⟩ := hv0
    obtain ⟨A, hAe⟩ : ∃ A, A = x / 10 ^ (9 * j) := ⟨_, rfl⟩
    have HTM := Lib.hid (text_more (x := x) (j := j))
    have HTL := Lib.hid (fun h => text_last (x := x) (j := j) HJ.out h)
    have HLB : Hid (9 * j ≤ 700) := by
      rcases Nat.eq_zero_or_pos j with h | h
      · subst h; exact Nat.zero_le _
      · exact lo_bound x j hx (HJ.out h)
    rw [← hAe] at hA HJ HV0 HTM HTL ⊢
    have HAE := Lib.hid hAe; clear hAe
    have HM := Lib.hid (natOf_nv HV0.out)
    have hD := divide_z (.slice oa (nl A) ca) (.slice (some ⟨wr.heap.size, 0, none⟩) 1 1) A 1000000000 (wr.alloc (.cells #[.int .u32 1000000000] 54)) (HV0.out.on ((On.refl wr).alloc _)) (one_nv wr _ 1000000000 rfl (by decide) (by decide)) (by decide) (by omega)
    have HD := Lib.hid hD; clear hD
    obtain ⟨q, hq⟩ : ∃ q, q = A / 1000000000 := ⟨_, rfl⟩
    obtain ⟨r, hr⟩ : ∃ r, r = A % 1000000000 := ⟨_, rfl⟩
    have hrb : r < 1000000000 := by rw [hr]; exact Nat.mod_lt _ (by decide)
    have hr2 : nl r ≤ 2 := nl_two (by omega)
    rw [← hq, ← hr] at HD HTM HTL
    have HQ := Lib.hid hq; clear hq hr
    obtain ⟨L0, hL0⟩ : ∃ L0, L0 = lo (9 * j) x := ⟨_, rfl⟩
    have hl0 : L0.length ≤ 10000 := by rw [hL0, lo_len]; have := HLB.out; omega
    rw [← hL0] at hod hnd HTM HTL
    have HOD := Lib.hid hod; have HND := Lib.hid hnd; have HON := Lib.hid hOn; have HL0 := Lib.hid hl0; have HCD := Lib.hid hcd; have HFD := Lib.hid hfd
    have hbv : w.heap.size < wr.heap.size := cell_size hcd
    clear hod hnd hOn hl0 hcd hfd hL0
    rcases Nat.eq_zero_or_pos q with h0 | h0
    · subst h0
      have HTL0 := Lib.hid (HTL.out rfl)
      have HLEN : Hid (∀ L : List UInt8, L.reverse = dec x → 0 < L.length ∧ L.length ≤ 1000000) := fun L hL => by
        have h1 := dec_len x hx
        rw [← hL, List.length_reverse] at h1
        exact ⟨h1.2, by omega⟩
      have hz := nl_zero
      clear HTL HTM
      go_wp2_with (first
        | (go_at_call 56; refine HD.out.mono ?_; rintro e w2 ⟨vq, vr, rfl, hvq, hvr, hO2, hz2⟩; obtain ⟨oq, cq, rfl, -, -, -⟩ := hvq; have HVR := Lib.hid hvr; have HO2 := Lib.hid ((On.alloc (On.refl wr) _).trans hO2); clear hvr hO2 hz2)
        | (go_at_call 51; refine (number_nv _ r w2 HVR.out hr2).mono ?_; rintro e w' ⟨rfl, rfl⟩)
        | (go_at_call 55; refine (write_1 w.heap.size r dv L0 w2 (by omega) ((Below.cell HO2.out (p := ⟨w.heap.size, 0, none⟩) hbv).trans HCD.out) ((Below.frozen HO2.out (p := ⟨w.heap.size, 0, none⟩) hbv).trans HFD.out) (HOD.out.on HO2.out) HL0.out HND.out).mono ?_; rintro e w3 ⟨⟨u, rfl⟩, dv2, hc3, hf3, ho3, hb3, -⟩; have HRV := Lib.hid HTL0.out; obtain ⟨L1, hL1⟩ : ∃ L1, L1 = L0 ++ lo (max 1 (ndz r)) r := ⟨_, rfl⟩; rw [← hL1] at ho3 HRV; have hlen := (HLEN.out L1 HRV.out).1; have hlen2 := (HLEN.out L1 HRV.out).2; clear hL1; obtain ⟨g, cg, rfl, hcap, hBg, hgs, hrow, hfree⟩ := ho3.row hlen; have HB3 := Lib.hid hb3; have HROW := Lib.hid hrow; have HFR := Lib.hid hfree; clear hb3 ho3 hrow hfree)
        | (go_at_call 57; refine (reverse_any L1 g cg w3 hlen2 hcap hlen HROW.out HFR.out).mono ?_; rintro e w4 ⟨⟨u2, rfl⟩, hrow4, hap⟩; have hback := back_run w4 g cg L1.reverse L1.length (by simp) hrow4; have hc4 : w4.cell? ⟨w.heap.size, 0, none⟩ = some (.slice (some ⟨g, 0, none⟩) L1.length cg) := (hap.cell (p := ⟨w.heap.size, 0, none⟩) (show w.heap.size ≠ g by omega)).trans hc3; have HFIN : Hid (On w w4) := ((HON.out.trans HO2.out).low HB3.out).ap (by omega) hap; rw [HRV.out] at hback; clear hrow4 hap))
      go_ret
      exact ⟨rfl, HFIN.out⟩
    · have hnq := nl_pos h0
      have hnz : (((nl q : Nat) : Int) == 0) = false := by simp; omega
      have hqA : q < A := by
        rw [HQ.out]
        have hA0 : 0 < A := by
          rcases Nat.eq_zero_or_pos A with h | h
          · have := HQ.out; rw [h] at this; simp at this; omega
          · exact h
        exact Nat.div_lt_self hA0 (by decide)
      have HQA := Lib.hid hqA
      have hnq64 : nl q ≤ 64 := Nat.le_trans (nl_mono (Nat.le_of_lt hqA)) hA
      have HJ2 : Hid (0 < j + 1 → 0 < x / 10 ^ (9 * (j + 1))) := fun _ => by rw [← HTM.out.2]; exact h0
      clear HTL hqA
      go_wp2_with (first
        | (go_at_call 56; refine HD.out.mono ?_; rintro e w2 ⟨vq, vr, rfl, hvq, hvr, hO2, hz2⟩; have HVQ := Lib.hid hvq; obtain ⟨oq, cq, rfl, -, -, -⟩ := hvq; have HVR := Lib.hid hvr; have HZ2 := Lib.hid hz2; have HO2 := Lib.hid ((On.alloc (On.refl wr) _).trans hO2); clear hvr hO2 hz2)
        | (go_at_call 51; refine (number_nv _ r w2 HVR.out hr2).mono ?_; rintro e w' ⟨rfl, rfl⟩)
        | (go_at_call 55; refine (write_9 w.heap.size r dv L0 w2 (by omega) ((Below.cell HO2.out (p := ⟨w.heap.size, 0, none⟩) hbv).trans HCD.out) ((Below.frozen HO2.out (p := ⟨w.heap.size, 0, none⟩) hbv).trans HFD.out) (HOD.out.on HO2.out) HL0.out HND.out).mono ?_; rintro e w3 ⟨⟨u, rfl⟩, dv2, hc3, hf3, ho3, hb3, hk3⟩; rw [HTM.out.1] at ho3; have HC3 := Lib.hid hc3; have HF3 := Lib.hid hf3; have HO3 := Lib.hid ho3; have HK3 := Lib.hid hk3; have HFIN : Hid (On w w3) := (HON.out.trans HO2.out).low hb3; clear hc3 hf3 ho3 hb3 hk3))
      have HVQ3 := Lib.hid (HVQ.out.keep HZ2.out HK3.out)
      have HNE : Hid (lo (9 * (j + 1)) x = [] → dv2 = .slice none 0 0) := fun h => by
        have := congrArg List.length h
        rw [lo_len] at this; simp at this
      go_roundw
      case rel => exact ⟨j + 1, by rw [← HTM.out.2]; exact hnq64, HJ2, by unfold Hid; rw [← HTM.out.2]; exact ⟨HVQ3.out, ⟨dv2, HC3.out, HF3.out, HO3.out, HNE.out⟩, HFIN.out⟩⟩
      case measure => rw [natOf_nv HVQ3.out, HM.out]; exact HQA.out
end Go.Proofs.Ytdgmlmcllkgemaa
