/- The library's Reverse at bytes. -/
import Derived.Test.YtdgmlmcllkgemaaKz13
import Derived.Laws.IdiomStrings
import Derived.Test.YtdgmlmcllkgemaaKz08
set_option linter.unusedSimpArgs false
set_option linter.unusedVariables false
/- The library's Reverse at bytes. -/
namespace Go.Proofs.Ytdgmlmcllkgemaa
open Go.RowKit
set_option linter.unusedVariables false

/-- Block g holds the bytes l, from its first cell on. -/
def ByteRow (w : World) (g : Nat) (l : List UInt8) : Prop := ∀ k, k < l.length → w.cell? ⟨g, 0 + k, none⟩ = some (.int .u8 ((l.getD k 0).toNat : Int))
/-- The bytes when i of them at each end are swapped. -/
def rvB (l : List UInt8) (i k : Nat) : UInt8 := if k < i ∨ l.length ≤ k + i then l.getD (l.length - 1 - k) 0 else l.getD k 0
theorem rvB_end (l : List UInt8) (i k : Nat) (hk : k < l.length) (hi : l.length ≤ 2 * i + 1) : rvB l i k = l.reverse.getD k 0 := by
  have e : l.reverse.getD k 0 = l.getD (l.length - 1 - k) 0 := by
    rw [List.getD_eq_getElem?_getD, List.getElem?_reverse hk, List.getD_eq_getElem?_getD]
  rw [e]; unfold rvB
  split
  · rfl
  · have : l.length - 1 - k = k := by omega
    rw [this]
structure RevW (l : List UInt8) (g i : Nat) (w w' : World) : Prop where
  cells : ∀ k, k < l.length → w'.cell? ⟨g, k, none⟩ = some (.int .u8 ((rvB l i k).toNat : Int))
  free : ∀ k, w'.frozen? ⟨g, k, none⟩ = false
  ap : Ap g w w'
theorem RevW.step {l : List UInt8} {g i j : Nat} {w w' : World} (h : RevW l g i w w') (hj : i + j + 1 = l.length) (hij : i < j) :
    RevW l g (i + 1) w ((w'.setCell ⟨g, i, none⟩ (.int .u8 ((l.getD j 0).toNat : Int))).setCell ⟨g, j, none⟩ (.int .u8 ((l.getD i 0).toNat : Int))) := by
  have hci := h.cells i (by omega)
  have hcj := h.cells j (by omega)
  refine ⟨fun k hk => ?_, fun k => by rw [World.frozen?_setCell, World.frozen?_setCell]; exact h.free k, (h.ap.setCell _ _).setCell _ _⟩
  by_cases h1 : k = j
  · subst h1
    have : rvB l (i + 1) k = l.getD i 0 := by
      unfold rvB; rw [if_pos (by omega)]; congr 1 <;> omega
    rw [this]
    refine World.cell?_setCell_same (u := .int .u8 ((rvB l i k).toNat : Int)) (h := ?_) ..
    rw [World.cell?_setCell_other (h := fun e => by simp at e; try omega) ..]; exact hcj
  · rw [World.cell?_setCell_other (h := fun e => by simp at e; try omega) ..]
    by_cases h2 : k = i
    · subst h2
      have : rvB l (k + 1) k = l.getD j 0 := by
        unfold rvB; rw [if_pos (by omega)]; congr 1 <;> omega
      rw [this]
      exact World.cell?_setCell_same (h := hci) ..
    · rw [World.cell?_setCell_other (h := fun e => by simp at e; try omega) ..]
      have : rvB l (i + 1) k = rvB l i k := by
        unfold rvB
        by_cases h3 : k < i ∨ l.length ≤ k + i
        · rw [if_pos h3, if_pos (by omega)]
        · rw [if_neg h3, if_neg (by omega)]
      rw [this]; exact h.cells k hk
theorem RevW.drew {l : List UInt8} {g i : Nat} {w w' : World} (h : RevW l g i w w') : RevW l g i w w'.drew := ⟨h.cells, h.free, h.ap.drewN 1⟩
set_option maxHeartbeats 1000000 in
theorem reverse_any (l : List UInt8) (g cap : Nat) (w : World) (hl : l.length ≤ 1000000) (hcap : l.length ≤ cap) (h0 : 0 < l.length) (hc : ByteRow w g l) (hf : ∀ k, w.frozen? ⟨g, k, none⟩ = false) :
    Calls Try.prog 57 #[.slice (some ⟨g, 0, none⟩) l.length cap] w fun e w' => (∃ v, e = .returned v) ∧ ByteRow w' g l.reverse ∧ Ap g w w' := by
  have HS : Hid (RevW l g 0 w w) := ⟨fun k hk => by have := hc k hk; rw [Nat.zero_add] at this; rw [this]; unfold rvB; rw [if_neg (by omega)], hf, Ap.refl _ _⟩
  clear hc hf
  go_enter Try.func57, Try.ntmps57
  go_hidden (go_wp2)
  go_loopw [2, 3] (fun vi vj wr => ∃ i : Nat, vi = .int .i64 (i : Int) ∧ vj = .int .i64 ((l.length : Int) - 1 - i) ∧ 2 * i ≤ l.length ∧ Hid (RevW l g i w wr)) (fun vi _ _ => l.length - (intOf vi).toNat)
  case atStart => exact ⟨0, rfl, by simp, by omega, HS⟩
  case round =>
    clear HS
    obtain ⟨i, rfl, rfl, hi, HW⟩ := hrel
    by_cases hlt : 2 * i + 1 < l.length
    · obtain ⟨j, hj⟩ : ∃ j, i + j + 1 = l.length := ⟨l.length - 1 - i, by omega⟩
      have hji : (l.length : Int) - 1 - (i : Int) = (j : Int) := by omega
      rw [hji]
      have hij : i < j := by omega
      have HN := Lib.hid (HW.out.step hj hij)
      have hci := HW.out.cells i (by omega)
      have hcj := HW.out.cells j (by omega)
      have e1 : rvB l i i = l.getD i 0 := by unfold rvB; rw [if_neg (by omega)]
      have e2 : rvB l i j = l.getD j 0 := by unfold rvB; rw [if_neg (by omega)]
      rw [e1] at hci
      rw [e2] at hcj
      have hfi := HW.out.free i
      have hfj := HW.out.free j
      clear e1 e2 HW
      generalize hx : (l.getD i 0).toNat = x at *
      generalize hy : (l.getD j 0).toNat = y at *
      have HX := Lib.hid hx; have HY := Lib.hid hy
      clear hx hy
      have hcj2 : (wr.setCell ⟨g, i, none⟩ (.int .u8 (y : Int))).cell? ⟨g, j, none⟩ = some (.int .u8 (y : Int)) := by
        rw [World.cell?_setCell_other (h := fun e => by simp at e; try omega) ..]; exact hcj
      go_wp2
      go_region
      all_goals
        go_wp2
        go_roundw
        case rel => exact ⟨i + 1, by go_num, by go_num, by omega, by first | exact HN.out.drew | exact HN.out⟩
        case measure => simp [intOf]; omega
    · have hex : ¬ (i : Int) < (l.length : Int) - 1 - (i : Int) := by omega
      have HF : Hid (ByteRow wr g l.reverse ∧ Ap g w wr) := ⟨fun k hk => by rw [List.length_reverse] at hk; rw [Nat.zero_add, HW.out.cells k hk, rvB_end l i k hk (by omega)], HW.out.ap⟩
      clear HW
      go_wp2
      first | (go_ret; exact ⟨⟨_, rfl⟩, HF.out⟩) | (go_end0; exact ⟨⟨_, rfl⟩, HF.out⟩) | exact ⟨rfl, _, rfl, ⟨_, rfl⟩, HF.out⟩
end Go.Proofs.Ytdgmlmcllkgemaa

/- Text of package ratio. -/
namespace Go.Proofs.Ytdgmlmcllkgemaa
open Go.RowKit
set_option linter.unusedVariables false

theorem Text_bad (v : Value) (m x : Nat) (w : World) (h : Lv w v m (x : Int)) (hx : x < 4294967296 ^ m) (hk : okB m x = false) :
    Calls Try.prog 14 #[v] w fun e w' => e = .returned (str []) ∧ w = w' := by
  have H := Lib.hid h; have HX := Lib.hid hx; have HK := Lib.hid hk
  clear h hx hk
  go_enter Try.func14, Try.ntmps14
  go_wp2_with (go_at_call 10; refine (valid_lv _ _ _ _ H.out HX.out).mono ?_; rw [HK.out]; rintro e w' ⟨rfl, rfl⟩)
  go_ret
  exact ⟨rfl, rfl⟩

/-- A round of Text, in digits. -/
theorem text_more {x j : Nat} : lo (9 * j) x ++ lo (max 9 (ndz (x / 10 ^ (9 * j) % 1000000000))) (x / 10 ^ (9 * j) % 1000000000) = lo (9 * (j + 1)) x ∧ x / 10 ^ (9 * j) / 1000000000 = x / 10 ^ (9 * (j + 1)) := by
  have h1 : ndz (x / 10 ^ (9 * j) % 1000000000) ≤ 9 := (ndz_le _ _).2 (Nat.mod_lt _ (by decide))
  rw [show max 9 (ndz (x / 10 ^ (9 * j) % 1000000000)) = 9 by omega, show 9 * (j + 1) = 9 * j + 9 by omega, lo_append, ← lo_mod 9 (x / 10 ^ (9 * j)), Nat.div_div_eq_div_mul, Nat.pow_add]
  exact ⟨rfl, rfl⟩
theorem text_last {x j : Nat} (hj : 0 < j → 0 < x / 10 ^ (9 * j)) (hq : x / 10 ^ (9 * j) / 1000000000 = 0) : (lo (9 * j) x ++ lo (max 1 (ndz (x / 10 ^ (9 * j) % 1000000000))) (x / 10 ^ (9 * j) % 1000000000)).reverse = dec x := by
  have hlt : x / 10 ^ (9 * j) < 1000000000 := by omega
  rw [Nat.mod_eq_of_lt hlt, ← lo_append]
  unfold dec
  congr 2
  unfold nd
  rcases Nat.eq_zero_or_pos j with h0 | h0
  · subst h0; simp
  · rw [ndz_div (hj h0)]
    have := ndz_pos (hj h0)
    omega
theorem dec_len (x : Nat) (hx : nl x ≤ 64) : (dec x).length ≤ 700 ∧ 0 < (dec x).length := by
  unfold dec nd
  rw [List.length_reverse, lo_len]
  have h1 := (nl_le _ _).1 hx
  have h2 : ndz x ≤ 640 + 60 := by
    rw [ndz_le]
    exact Nat.lt_of_lt_of_le h1 (by decide +kernel)
  omega
theorem lo_bound (x j : Nat) (hx : nl x ≤ 64) (hj : 0 < x / 10 ^ (9 * j)) : 9 * j ≤ 700 := by
  have h1 := (nl_le _ _).1 hx
  have h2 : ndz x ≤ 700 := by
    rw [ndz_le]
    exact Nat.lt_of_lt_of_le h1 (by decide +kernel)
  have := ndz_div hj
  omega
theorem OwnsB.row {B : Nat} {w : World} {v : Value} {l : List UInt8} (h : OwnsB B w v l) (hl : 0 < l.length) : ∃ g cap, v = .slice (some ⟨g, 0, none⟩) l.length cap ∧ l.length ≤ cap ∧ B ≤ g ∧ g < w.heap.size ∧ ByteRow w g l ∧ ∀ k, w.frozen? ⟨g, k, none⟩ = false := by
  rcases id h.2 with ⟨h1, h2⟩ | ⟨g, cap, cur, rfl, hg, hh, hlc, _, _, hx⟩
  · omega
  · refine ⟨g, cap, rfl, hlc, hg, (Array.getElem?_eq_some_iff.1 hh).1, fun k hk => ?_, fun k => World.ownsRow.frozenAt h k⟩
    have h0 : (cur.toList.take (l.length * 1))[k]? = (bytesV l)[k]? := by rw [hx]
    rw [List.getElem?_take, if_pos (by omega)] at h0
    unfold World.cell?
    rw [Nat.zero_add, hh]
    have : (bytesV l)[k]? = some (.int .u8 ((l.getD k 0).toNat : Int)) := by
      unfold bytesV; rw [List.getElem?_map, List.getElem?_eq_getElem hk, List.getD_eq_getElem?_getD, List.getElem?_eq_getElem hk]; rfl
    rw [this] at h0
    simpa using h0
theorem On.low {W w w' : World} (h : On W w) (k : Below W.heap.size w w') : On W w' := Below.trans h k
theorem write_1 (Bv n : Nat) (v0 : Value) (l0 : List UInt8) (w : World) (hn : n ≤ 18446744073709551615) (hc : w.cell? ⟨Bv, 0, none⟩ = some v0) (hf : w.frozen? ⟨Bv, 0, none⟩ = false) (hown : OwnsB (Bv + 1) w v0 l0) (h0 : l0.length ≤ 10000) (hnil : l0 = [] → v0 = .slice none 0 0) :
    Calls Try.prog 55 #[.int .u64 (n : Int), .int .i64 1, .pointer (some ⟨Bv, 0, none⟩)] w fun e w' => (∃ u, e = .returned u) ∧ ∃ v, w'.cell? ⟨Bv, 0, none⟩ = some v ∧ w'.frozen? ⟨Bv, 0, none⟩ = false ∧ OwnsB (Bv + 1) w' v (l0 ++ lo (max 1 (ndz n)) n) ∧ Below Bv w w' ∧ Keep32 w w' :=
  write_any Bv n 1 v0 l0 w hn (by decide) hc hf hown h0 hnil (fun z e => by obtain ⟨a, c, h⟩ := hown.shape; rw [h] at e; cases e)
theorem write_9 (Bv n : Nat) (v0 : Value) (l0 : List UInt8) (w : World) (hn : n ≤ 18446744073709551615) (hc : w.cell? ⟨Bv, 0, none⟩ = some v0) (hf : w.frozen? ⟨Bv, 0, none⟩ = false) (hown : OwnsB (Bv + 1) w v0 l0) (h0 : l0.length ≤ 10000) (hnil : l0 = [] → v0 = .slice none 0 0) :
    Calls Try.prog 55 #[.int .u64 (n : Int), .int .i64 9, .pointer (some ⟨Bv, 0, none⟩)] w fun e w' => (∃ u, e = .returned u) ∧ ∃ v, w'.cell? ⟨Bv, 0, none⟩ = some v ∧ w'.frozen? ⟨Bv, 0, none⟩ = false ∧ OwnsB (Bv + 1) w' v (l0 ++ lo (max 9 (ndz n)) n) ∧ Below Bv w w' ∧ Keep32 w w' :=
  write_any Bv n 9 v0 l0 w hn (by decide) hc hf hown h0 hnil (fun z e => by obtain ⟨a, c, h⟩ := hown.shape; rw [h] at e; cases e)
theorem back_run (w : World) (g cap : Nat) (l : List UInt8) (n : Nat) (hn : n = l.length) (hc : ByteRow w g l) :
    (convert 58 9 (.slice (some ⟨g, 0, none⟩) n cap)).run Try.prog w = .ok (.string ⟨l.toArray⟩) w := by
  subst hn
  refine run_convert_bytes_back w 58 9 5 ⟨g, 0, none⟩ cap l Try.underlying58 Try.underlying5 Try.underlying9 (fun j hj => ?_)
  have := hc j hj
  rw [List.getD_eq_getElem?_getD, List.getElem?_eq_getElem hj] at this
  rw [show (⟨g, 0, none⟩ : Addr).add j = ⟨g, 0 + j, none⟩ by unfold Addr.add; split <;> simp_all]
  exact this
set_option maxHeartbeats 2000000 in
theorem Text_yes (v : Value) (x : Nat) (w : World) (h : Nv w v x) (hx : nl x ≤ 64) :
    Calls Try.prog 14 #[v] w fun e w' => e = .returned (str (dec x)) ∧ On w w' := by
  have H : Hid (Lv w v (nl x) (x : Int)) := h
  have HX := Lib.hid (lt_nl x)
  have HK : Hid (okB (nl x) x = true) := by unfold Hid; rw [okB_nl]; simp [hx]
  have hO1 : On w (w.alloc (.cells #[.slice none 0 0] 58)) := (On.refl w).alloc _
  have hc0 : (w.alloc (.cells #[.slice none 0 0] 58)).cell? ⟨w.heap.size, 0, none⟩ = some (.slice none 0 0) := by rw [World.cell?_alloc_new]; rfl
  have hf0 : (w.alloc (.cells #[.slice none 0 0] 58)).frozen? ⟨w.heap.size, 0, none⟩ = false := World.frozen?_alloc_new ..
  have HST : Hid (Nv (w.alloc (.cells #[.slice none 0 0] 58)) v (x / 10 ^ (9 * 0)) ∧ (∃ dv, (w.alloc (.cells #[.slice none 0 0] 58)).cell? ⟨w.heap.size, 0, none⟩ = some dv ∧ (w.alloc (.cells #[.slice none 0 0] 58)).frozen? ⟨w.heap.size, 0, none⟩ = false ∧ OwnsB (w.heap.size + 1) (w.alloc (.cells #[.slice none 0 0] 58)) dv (lo (9 * 0) x) ∧ (lo (9 * 0) x = [] → dv = .slice none 0 0)) ∧ On w (w.alloc (.cells #[.slice none 0 0] 58))) :=
    ⟨by rw [Nat.mul_zero, Nat.pow_zero, Nat.div_one]; exact h.on hO1, ⟨_, hc0, hf0, OwnsB.nil _ _, fun _ => rfl⟩, hO1⟩
  clear h hO1 hc0 hf0
  go_enter Try.func14, Try.ntmps14
  go_hidden (go_wp2_with (go_at_call 10; refine (valid_lv _ _ _ _ H.out HX.out).mono ?_; rw [HK.out]; rintro e w' ⟨rfl, rfl⟩))
  go_loopw [0] (fun v0 wr => ∃ j : Nat, nl (x / 10 ^ (9 * j)) ≤ 64 ∧ Hid (0 < j → 0 < x / 10 ^ (9 * j)) ∧ Hid (Nv wr v0 (x / 10 ^ (9 * j)) ∧ (∃ dv, wr.cell? ⟨w.heap.size, 0, none⟩ = some dv ∧ wr.frozen? ⟨w.heap.size, 0, none⟩ = false ∧ OwnsB (w.heap.size + 1) wr dv (lo (9 * j) x) ∧ (lo (9 * j) x = [] → dv = .slice none 0 0)) ∧ On w wr)) (fun v0 wr => natOf wr v0)
  case atStart => exact ⟨0, Nat.le_trans (nl_mono (Nat.div_le_self _ _)) hx, fun h => by omega, HST⟩
  case round =>
    clear HST
    obtain ⟨j, hA, HJ, HW⟩ := hrel
    obtain ⟨hv0, ⟨dv, hcd, hfd, hod, hnd⟩, hOn⟩ := HW.out
    clear HW
    have HV0 := Lib.hid hv0
    obtain ⟨oa, ca, rfl, -, -, -⟩ := hv0
    obtain ⟨A, hAe⟩ : ∃ A, A = x / 10 ^ (9 * j) := ⟨_, rfl⟩
    have HTM := Lib.hid (text_more (x := x) (j := j))
    have HTL := Lib.hid (fun h => text_last (x := x) (j := j) HJ.out h)
    have HLB : Hid (9 * j ≤ 700) := by
      rcases Nat.eq_zero_or_pos j with h | h
      · subst h; exact Nat.zero_le _
      · exact lo_bound x j hx (HJ.out h)
    rw [← hAe] at hA HJ HV0 HTM HTL ⊢
    have HAE := Lib.hid hAe; clear hAe
    have HM := Lib.hid (natOf_nv HV0.out)
    have hD := divide_z (.slice oa (nl A) ca) (.slice (some ⟨wr.heap.size, 0, none⟩) 1 1) A 1000000000 (wr.alloc (.cells #[.int .u32 1000000000] 54)) (HV0.out.on ((On.refl wr).alloc _)) (one_nv wr _ 1000000000 rfl (by decide) (by decide)) (by decide) (by omega)
    have HD := Lib.hid hD; clear hD
    obtain ⟨q, hq⟩ : ∃ q, q = A / 1000000000 := ⟨_, rfl⟩
    obtain ⟨r, hr⟩ : ∃ r, r = A % 1000000000 := ⟨_, rfl⟩
    have hrb : r < 1000000000 := by rw [hr]; exact Nat.mod_lt _ (by decide)
    have hr2 : nl r ≤ 2 := nl_two (by omega)
    rw [← hq, ← hr] at HD HTM HTL
    have HQ := Lib.hid hq; clear hq hr
    obtain ⟨L0, hL0⟩ : ∃ L0, L0 = lo (9 * j) x := ⟨_, rfl⟩
    have hl0 : L0.length ≤ 10000 := by rw [hL0, lo_len]; have := HLB.out; omega
    rw [← hL0] at hod hnd HTM HTL
    have HOD := Lib.hid hod; have HND := Lib.hid hnd; have HON := Lib.hid hOn; have HL0 := Lib.hid hl0; have HCD := Lib.hid hcd; have HFD := Lib.hid hfd
    have hbv : w.heap.size < wr.heap.size := cell_size hcd
    clear hod hnd hOn hl0 hcd hfd hL0
    rcases Nat.eq_zero_or_pos q with h0 | h0
    · subst h0
      have HTL0 := Lib.hid (HTL.out rfl)
      have HLEN : Hid (∀ L : List UInt8, L.reverse = dec x → 0 < L.length ∧ L.length ≤ 1000000) := fun L hL => by
        have h1 := dec_len x hx
        rw [← hL, List.length_reverse] at h1
        exact ⟨h1.2, by omega⟩
      have hz := nl_zero
      clear HTL HTM
      go_wp2_with (first
        | (go_at_call 56; refine HD.out.mono ?_; rintro e w2 ⟨vq, vr, rfl, hvq, hvr, hO2, hz2⟩; obtain ⟨oq, cq, rfl, -, -, -⟩ := hvq; have HVR := Lib.hid hvr; have HO2 := Lib.hid ((On.alloc (On.refl wr) _).trans hO2); clear hvr hO2 hz2)
        | (go_at_call 51; refine (number_nv _ r w2 HVR.out hr2).mono ?_; rintro e w' ⟨rfl, rfl⟩)
        | (go_at_call 55; refine (write_1 w.heap.size r dv L0 w2 (by omega) ((Below.cell HO2.out (p := ⟨w.heap.size, 0, none⟩) hbv).trans HCD.out) ((Below.frozen HO2.out (p := ⟨w.heap.size, 0, none⟩) hbv).trans HFD.out) (HOD.out.on HO2.out) HL0.out HND.out).mono ?_; rintro e w3 ⟨⟨u, rfl⟩, dv2, hc3, hf3, ho3, hb3, -⟩; have HRV := Lib.hid HTL0.out; obtain ⟨L1, hL1⟩ : ∃ L1, L1 = L0 ++ lo (max 1 (ndz r)) r := ⟨_, rfl⟩; rw [← hL1] at ho3 HRV; have hlen := (HLEN.out L1 HRV.out).1; have hlen2 := (HLEN.out L1 HRV.out).2; clear hL1; obtain ⟨g, cg, rfl, hcap, hBg, hgs, hrow, hfree⟩ := ho3.row hlen; have HB3 := Lib.hid hb3; have HROW := Lib.hid hrow; have HFR := Lib.hid hfree; clear hb3 ho3 hrow hfree)
        | (go_at_call 57; refine (reverse_any L1 g cg w3 hlen2 hcap hlen HROW.out HFR.out).mono ?_; rintro e w4 ⟨⟨u2, rfl⟩, hrow4, hap⟩; have hback := back_run w4 g cg L1.reverse L1.length (by simp) hrow4; have hc4 : w4.cell? ⟨w.heap.size, 0, none⟩ = some (.slice (some ⟨g, 0, none⟩) L1.length cg) := (hap.cell (p := ⟨w.heap.size, 0, none⟩) (show w.heap.size ≠ g by omega)).trans hc3; have HFIN : Hid (On w w4) := ((HON.out.trans HO2.out).low HB3.out).ap (by omega) hap; rw [HRV.out] at hback; clear hrow4 hap))
      go_ret
      exact ⟨rfl, HFIN.out⟩
    · have hnq := nl_pos h0
      have hnz : (((nl q : Nat) : Int) == 0) = false := by simp; omega
      have hqA : q < A := by
        rw [HQ.out]
        have hA0 : 0 < A := by
          rcases Nat.eq_zero_or_pos A with h | h
          · have := HQ.out; rw [h] at this; simp at this; omega
          · exact h
        exact Nat.div_lt_self hA0 (by decide)
      have HQA := Lib.hid hqA
      have hnq64 : nl q ≤ 64 := Nat.le_trans (nl_mono (Nat.le_of_lt hqA)) hA
      have HJ2 : Hid (0 < j + 1 → 0 < x / 10 ^ (9 * (j + 1))) := fun _ => by rw [← HTM.out.2]; exact h0
      clear HTL hqA
      go_wp2_with (first
        | (go_at_call 56; refine HD.out.mono ?_; rintro e w2 ⟨vq, vr, rfl, hvq, hvr, hO2, hz2⟩; have HVQ := Lib.hid hvq; obtain ⟨oq, cq, rfl, -, -, -⟩ := hvq; have HVR := Lib.hid hvr; have HZ2 := Lib.hid hz2; have HO2 := Lib.hid ((On.alloc (On.refl wr) _).trans hO2); clear hvr hO2 hz2)
        | (go_at_call 51; refine (number_nv _ r w2 HVR.out hr2).mono ?_; rintro e w' ⟨rfl, rfl⟩)
        | (go_at_call 55; refine (write_9 w.heap.size r dv L0 w2 (by omega) ((Below.cell HO2.out (p := ⟨w.heap.size, 0, none⟩) hbv).trans HCD.out) ((Below.frozen HO2.out (p := ⟨w.heap.size, 0, none⟩) hbv).trans HFD.out) (HOD.out.on HO2.out) HL0.out HND.out).mono ?_; rintro e w3 ⟨⟨u, rfl⟩, dv2, hc3, hf3, ho3, hb3, hk3⟩; rw [HTM.out.1] at ho3; have HC3 := Lib.hid hc3; have HF3 := Lib.hid hf3; have HO3 := Lib.hid ho3; have HK3 := Lib.hid hk3; have HFIN : Hid (On w w3) := (HON.out.trans HO2.out).low hb3; clear hc3 hf3 ho3 hb3 hk3))
      have HVQ3 := Lib.hid (HVQ.out.keep HZ2.out HK3.out)
      have HNE : Hid (lo (9 * (j + 1)) x = [] → dv2 = .slice none 0 0) := fun h => by
        have := congrArg List.length h
        rw [lo_len] at this; simp at this
      go_roundw
      case rel => exact ⟨j + 1, by rw [← HTM.out.2]; exact hnq64, HJ2, by unfold Hid; rw [← HTM.out.2]; exact ⟨HVQ3.out, ⟨dv2, HC3.out, HF3.out, HO3.out, HNE.out⟩, HFIN.out⟩⟩
      case measure => rw [natOf_nv HVQ3.out, HM.out]; exact HQA.out
end Go.Proofs.Ytdgmlmcllkgemaa

/- Show of package ratio. -/
namespace Go.Proofs.Ytdgmlmcllkgemaa
open Go.RowKit
set_option linter.unusedVariables false

theorem two_on {w w' : World} {a b : Addr} {va vb : Value} (h : w.cell? a = some va ∧ w.cell? b = some vb) (k : On w w') : w'.cell? a = some va ∧ w'.cell? b = some vb :=
  ⟨(Below.cell k (cell_size h.1)).trans h.1, (Below.cell k (cell_size h.2)).trans h.2⟩
theorem cat_str (a b : List UInt8) : (⟨a.toArray⟩ : ByteArray) ++ ⟨b.toArray⟩ = ⟨(a ++ b).toArray⟩ := by
  apply ByteArray.ext
  simp
set_option maxHeartbeats 2000000 in
theorem Show_yes (vx : Value) (p q : Nat) (w : World) (hx : Fv w vx p q) (kx : okF (nl p) p (nl q) q = true) :
    Calls Try.prog 39 #[vx] w fun e w' => e = .returned (str (dec p ++ 47 :: dec q)) ∧ On w w' := by
  have HX := Lib.hid hx
  obtain ⟨vxp, vxq, rfl, hxp, hxq⟩ := hx
  obtain ⟨-, -, hp64, hq64, hq0, -⟩ := okF_true kx
  have HXP := Lib.hid hxp; have HXQ := Lib.hid hxq
  obtain ⟨o1, c1, rfl, -, -, -⟩ := hxp
  obtain ⟨o2, c2, rfl, -, -, -⟩ := hxq
  have HKX := Lib.hid kx
  have HO1 : Hid (On w (w.alloc (.cells #[.slice o1 (nl p) c1, .slice o2 (nl q) c2] 41))) := (On.refl w).alloc _
  have HF : Hid ((w.alloc (.cells #[.slice o1 (nl p) c1, .slice o2 (nl q) c2] 41)).cell? ⟨w.heap.size, 0, none⟩ = some (.slice o1 (nl p) c1) ∧ (w.alloc (.cells #[.slice o1 (nl p) c1, .slice o2 (nl q) c2] 41)).cell? ⟨w.heap.size, 1, none⟩ = some (.slice o2 (nl q) c2)) :=
    ⟨by rw [World.cell?_alloc_new]; rfl, by rw [World.cell?_alloc_new]; rfl⟩
  have hcat : (⟨(dec p).toArray⟩ : ByteArray) ++ ⟨#[47]⟩ ++ ⟨(dec q).toArray⟩ = ⟨(dec p ++ 47 :: dec q).toArray⟩ := by
    rw [show (⟨#[47]⟩ : ByteArray) = ⟨[47].toArray⟩ from rfl, cat_str, cat_str, List.append_assoc]; rfl
  have HCAT := Lib.hid hcat; clear hcat
  have HTP := Lib.hid (fun w0 h => Text_yes (.slice o1 (nl p) c1) p w0 h hp64)
  have HTQ := Lib.hid (fun w0 h => Text_yes (.slice o2 (nl q) c2) q w0 h hq64)
  unfold str at *
  obtain ⟨sp, hsp⟩ : ∃ sp : ByteArray, sp = ⟨(dec p).toArray⟩ := ⟨_, rfl⟩
  obtain ⟨sq, hsq⟩ : ∃ sq : ByteArray, sq = ⟨(dec q).toArray⟩ := ⟨_, rfl⟩
  rw [← hsp] at HTP HCAT
  rw [← hsq] at HTQ HCAT
  rw [← HCAT.out]
  have z1 : sp.size ≤ 700 := by rw [hsp]; exact (dec_len p hp64).1
  have z2 : sq.size ≤ 700 := by rw [hsq]; exact (dec_len q hq64).1
  have g1 : sp.size + 1 ≤ 9223372036854775807 := by omega
  have g2 : sp.size + 1 + sq.size ≤ 9223372036854775807 := by omega
  clear hsp hsq
  go_enter Try.func39, Try.ntmps39
  go_hidden (go_wp2_with (go_at_call 35; ((with_reducible refine (valid_any (.agg #[.slice o1 (nl p) c1, .slice o2 (nl q) c2]) (nl p) p (nl q) q _ (HX.out.gv.on HO1.out) (lt_nl p) (lt_nl q)).mono ?_)); rw [HKX.out]; rintro e w2 ⟨rfl, hO⟩; have HO2 := Lib.hid hO; clear hO))
  obtain ⟨hS1, hS2⟩ := two_on HF.out HO2.out
  have HP2 := Lib.hid (HXP.out.on (HO1.out.trans HO2.out))
  have HQ2 := Lib.hid (HXQ.out.on (HO1.out.trans HO2.out))
  have HU2 := Lib.hid (HO1.out.trans HO2.out)
  go_region_with (first
    | (go_at_call 14; ((with_reducible refine (HTP.out w2 HP2.out).mono ?_)); rintro e wa ⟨rfl, hOa⟩; have HOa := Lib.hid hOa; obtain ⟨hA1, hA2⟩ := two_on ⟨hS1, hS2⟩ hOa; clear hOa)
    | (go_at_call 14; ((with_reducible refine (HTP.out w2.drew (HP2.out.on (On.refl w2).drew)).mono ?_)); rintro e wa ⟨rfl, hOa⟩; have HOa := Lib.hid ((On.refl w2).drew.trans hOa); obtain ⟨hA1, hA2⟩ := two_on ⟨hS1, hS2⟩ HOa.out; clear hOa)
    | (go_at_call 14; ((with_reducible refine (HTQ.out wa (HQ2.out.on HOa.out)).mono ?_)); rintro e wb ⟨rfl, hOb⟩; have HFIN := Lib.hid (HU2.out.trans (HOa.out.trans hOb)); clear hOb)
    | (go_at_call 14; ((with_reducible refine (HTQ.out wa.drew (HQ2.out.on HOa.out.drew)).mono ?_)); rintro e wb ⟨rfl, hOb⟩; have HFIN := Lib.hid (HU2.out.trans (HOa.out.drew.trans hOb)); clear hOb))
  all_goals
    go_wp2
    go_ret
    first | exact ⟨rfl, HFIN.out⟩ | exact ⟨rfl, HFIN.out.drew⟩
end Go.Proofs.Ytdgmlmcllkgemaa

/- Read of package ratio. -/
namespace Go.Proofs.Ytdgmlmcllkgemaa
open Go.RowKit
set_option linter.unusedVariables false

set_option maxHeartbeats 2000000 in
theorem Read_yes (a b : List UInt8) (w : World) (h47 : (47 : UInt8) ∉ a) (hl : (a ++ 47 :: b).length ≤ 9223372036854775807) (ta : textB a = true) (tb : textB b = true) (na : nl (numOf a) ≤ 64) (nb : nl (numOf b) ≤ 64) (hb0 : 0 < numOf b) :
    Calls Try.prog 30 #[str (a ++ 47 :: b)] w fun e w' => ∃ v, e = .returned (.tuple #[v, .int .i64 0]) ∧ Fv w' v (numOf a / Nat.gcd (numOf a) (numOf b)) (numOf b / Nat.gcd (numOf a) (numOf b)) ∧ On w w' := by
  have hla : a.length ≤ 9223372036854775807 := by rw [List.length_append, List.length_cons] at hl; omega
  have hlb : b.length ≤ 9223372036854775807 := by rw [List.length_append, List.length_cons] at hl; omega
  have HCut := Lib.hid (fun w0 => lcut_yes a b w0 h47 hl)
  have HIa := Lib.hid (fun w0 => isText_any a w0 hla)
  have HIb := Lib.hid (fun w0 => isText_any b w0 hlb)
  have HPa := Lib.hid (fun w0 => Parse_yes a w0 hla ta)
  have HPb := Lib.hid (fun w0 => Parse_yes b w0 hlb tb)
  rw [ta] at HIa
  rw [tb] at HIb
  rw [show limC (numOf a) = 0 from if_pos na, show limN (numOf a) = numOf a from if_pos na] at HPa
  rw [show limC (numOf b) = 0 from if_pos nb, show limN (numOf b) = numOf b from if_pos nb] at HPb
  have HNew := Lib.hid (fun va vb w0 h1 h2 => New_yes va vb (numOf a) (numOf b) w0 h1 h2 na nb hb0)
  generalize numOf a = A at *
  generalize numOf b = B at *
  obtain ⟨P, hP⟩ : ∃ P, P = A / Nat.gcd A B := ⟨_, rfl⟩
  obtain ⟨Q, hQ⟩ : ∃ Q, Q = B / Nat.gcd A B := ⟨_, rfl⟩
  rw [← hP, ← hQ] at HNew ⊢
  clear hP hQ h47 hl ta tb hla hlb na nb hb0
  have HO1 : Hid (On w (w.alloc (.cells #[.slice none 0 0, .slice none 0 0] 41))) := (On.refl w).alloc _
  unfold str at *
  generalize (⟨(a ++ 47 :: b).toArray⟩ : ByteArray) = s at *
  generalize (⟨a.toArray⟩ : ByteArray) = sa at *
  generalize (⟨b.toArray⟩ : ByteArray) = sb at *
  go_enter Try.func30, Try.ntmps30
  go_wp2_with (first
    | (go_at_call 72; refine (HCut.out _).mono ?_; rintro e w1 ⟨rfl, n, hn⟩; have HW1 : Hid (On (w.alloc (.cells #[.slice none 0 0, .slice none 0 0] 41)) w1) := (hn ▸ (On.refl _).drewN n : On _ w1); clear hn)
    | (go_at_call 70; ((with_reducible refine (HIa.out w1).mono ?_)); rintro e w' ⟨rfl, rfl⟩)
    | (go_at_call 70; ((with_reducible refine (HIb.out w1).mono ?_)); rintro e w' ⟨rfl, rfl⟩)
    | (go_at_call 28; ((with_reducible refine (HPa.out w1).mono ?_)); rintro e w2 ⟨va, rfl, hva, hO2⟩; have HVA := Lib.hid hva; have HO2 := Lib.hid hO2; clear hva hO2)
    | (go_at_call 28; ((with_reducible refine (HPb.out w2).mono ?_)); rintro e w3 ⟨vb, rfl, hvb, hO3⟩; have HVB := Lib.hid hvb; have HO3 := Lib.hid hO3; clear hvb hO3)
    | (go_at_call 41; refine (HNew.out va vb w3 (HVA.out.on HO3.out) HVB.out).mono ?_; rintro e w5 ⟨v, rfl, ⟨vp, vz, rfl, hp, hz⟩, hOn⟩; have HP := Lib.hid hp; have HZ := Lib.hid hz; have HO5 := Lib.hid (((HW1.out.trans HO2.out).trans HO3.out).trans hOn); obtain ⟨op, cp, rfl, -, -, -⟩ := hp; obtain ⟨oz, cz, rfl, -, -, -⟩ := hz; clear hOn; obtain ⟨k1, k2, k3, k4, k5, k6, k7⟩ := res_facts HO5.out (.slice op (nl P) cp) (.slice oz (nl Q) cz)))
  (try simp only [Exit.inBlock, Exit.then])
  refine bodyPost_ret (by simp [results, Try.results30, go_sem, k6, k7]; try rfl) rfl ?_
  exact ⟨_, rfl, (res_end HO5.out HP.out HZ.out).1, (res_end HO5.out HP.out HZ.out).2⟩
end Go.Proofs.Ytdgmlmcllkgemaa

/- The examples that every law of the second stage asks besides: the call returns true. -/
namespace Go.Proofs.Ytdgmlmcllkgemaa
open Go.RowKit
set_option linter.unusedVariables false

theorem nl2 {n : Nat} (h0 : 4294967296 ≤ n) (h : n < 18446744073709551616) : nl n = 2 := nl_eq (k := 1) (by simp; omega) (by simp; omega)
/-- A new list of two limbs. -/
theorem pair_nv (w : World) (B n a b : Nat) (hB : B = w.heap.size) (hn : n = a + 4294967296 * b) (ha : a < 4294967296) (hb : b < 4294967296) (hb0 : 0 < b) : Nv (w.alloc (.cells #[.int .u32 (a : Int), .int .u32 (b : Int)] 54)) (.slice (some ⟨B, 0, none⟩) 2 2) n := by
  subst hB; subst hn
  have h2 : nl (a + 4294967296 * b) = 2 := nl2 (by omega) (by omega)
  have := two_cells w a b ha hb
  unfold Nv; rw [h2]; exact this
theorem three_nv (w : World) (B : Nat) (hB : B = w.heap.size) : Nv (w.alloc (.cells #[.int .u32 0, .int .u32 0, .int .u32 1] 54)) (.slice (some ⟨B, 0, none⟩) 3 3) 18446744073709551616 := by
  subst hB
  have h3 : nl 18446744073709551616 = 3 := nl_eq (k := 2) (by decide) (by decide)
  refine ⟨_, 3, by rw [h3], by rw [h3]; omega, by omega, fun k hk => ⟨_, _, rfl, ?_⟩⟩
  rw [h3] at hk
  rw [Nat.zero_add, World.cell?_alloc_new]
  obtain rfl | rfl | rfl : k = 0 ∨ k = 1 ∨ k = 2 := by omega
  · have : dg ((18446744073709551616 : Nat) : Int) 0 = 0 := by rw [dg_nat]; try decide
    rw [this]; rfl
  · have : dg ((18446744073709551616 : Nat) : Int) 1 = 0 := by rw [dg_nat]; try decide
    rw [this]; rfl
  · have : dg ((18446744073709551616 : Nat) : Int) 2 = 1 := by rw [dg_nat]; try decide
    rw [this]; rfl
theorem limC_ok {n : Nat} (h : nl n ≤ 64) : limC n = 0 ∧ limN n = n := ⟨if_pos h, if_pos h⟩
theorem nl64 {n : Nat} (h : n ≤ 18446744073709551615) : nl n ≤ 64 := Nat.le_trans (nl_two h) (by decide)
theorem okF_small {p q : Nat} (hp : p ≤ 18446744073709551615) (hq : q ≤ 18446744073709551615) (h0 : 0 < q) (hg : Nat.gcd p q = 1) : okF (nl p) p (nl q) q = true := by
  unfold okF
  rw [okB_nl, okB_nl, decide_eq_true (nl64 hp), decide_eq_true (nl64 hq), decide_eq_true h0, decide_eq_true hg]; rfl
theorem fit_small {p q : Nat} (hp : p ≤ 18446744073709551615) (hq : q ≤ 18446744073709551615) : fitC p q = 0 ∧ fitP p q = p ∧ fitQ p q = q := by
  have : fitB p q = true := by unfold fitB; exact decide_eq_true ⟨nl64 hp, nl64 hq⟩
  exact ⟨if_pos this, if_pos this, if_pos this⟩
theorem dec_of (l : List UInt8) (n : Nat) (h1 : textB l = true) (h2 : numOf l = n) : dec n = l := by rw [← h2]; exact dec_numOf h1

theorem k_sum (va vb : Value) (w : World) (ha : Nv w va 4294967295) (hb : Nv w vb 1) :
    Calls Try.prog 16 #[va, vb] w fun e w' => ∃ v, e = .returned (.tuple #[v, .int .i64 0]) ∧ Nv w' v 4294967296 ∧ On w w' := by
  have h := Sum_yes va vb 4294967295 1 w ha hb (nl64 (by decide)) (nl64 (by decide))
  have e := limC_ok (n := 4294967295 + 1) (nl64 (by decide))
  rw [e.1, e.2] at h
  exact h
theorem k_quo (va vb : Value) (w : World) (ha : Nv w va 18446744073709551616) (hb : Nv w vb 10) :
    Calls Try.prog 23 #[va, vb] w fun e w' => ∃ v v', e = .returned (.tuple #[v, v', .int .i64 0]) ∧ Nv w' v 1844674407370955161 ∧ Nv w' v' 6 ∧ On w w' :=
  Quotient_yes va vb 18446744073709551616 10 w ha hb (by rw [nl_eq (n := 18446744073709551616) (k := 2) (by decide) (by decide)]; decide) (nl64 (by decide)) (by decide)
theorem k_of (w : World) : Calls Try.prog 49 #[.int .u64 6, .int .u64 8] w fun e w' => ∃ v, e = .returned (.tuple #[v, .int .i64 0]) ∧ Fv w' v 3 4 ∧ On w w' :=
  Of_yes 6 8 w (by decide) (by decide) (by decide)
theorem k_read (w : World) : Calls Try.prog 30 #[.string ⟨#[52, 47, 56]⟩] w fun e w' => ∃ v, e = .returned (.tuple #[v, .int .i64 0]) ∧ Fv w' v 1 2 ∧ On w w' :=
  Read_yes [52] [56] w (by decide) (by decide) (by decide) (by decide) (nl64 (by decide)) (nl64 (by decide)) (by decide)
theorem k_add (vx vy : Value) (w : World) (hx : Fv w vx 3 4) (hy : Fv w vy 1 2) :
    Calls Try.prog 43 #[vx, vy] w fun e w' => ∃ v, e = .returned (.tuple #[v, .int .i64 0]) ∧ Fv w' v 5 4 ∧ On w w' := by
  have h := Add_yes vx vy 3 4 1 2 w hx hy (okF_small (by decide) (by decide) (by decide) (by decide)) (okF_small (by decide) (by decide) (by decide) (by decide))
  have e := fit_small (p := (3 * 2 + 1 * 4) / Nat.gcd (3 * 2 + 1 * 4) (4 * 2)) (q := 4 * 2 / Nat.gcd (3 * 2 + 1 * 4) (4 * 2)) (by decide) (by decide)
  rw [e.1, e.2.1, e.2.2] at h
  exact h
theorem k_text (v : Value) (w : World) (h : Nv w v 1844674407370955161) :
    Calls Try.prog 14 #[v] w fun e w' => e = .returned (.string ⟨#[49, 56, 52, 52, 54, 55, 52, 52, 48, 55, 51, 55, 48, 57, 53, 53, 49, 54, 49]⟩) ∧ On w w' := by
  have h2 := Text_yes v 1844674407370955161 w h (nl64 (by decide))
  rw [dec_of [49, 56, 52, 52, 54, 55, 52, 52, 48, 55, 51, 55, 48, 57, 53, 53, 49, 54, 49] _ (by decide) (by decide +kernel)] at h2
  exact h2
theorem k_show (v : Value) (p q : Nat) (a b : UInt8) (w : World) (h : Fv w v p q) (hp : p ≤ 9) (hq : q ≤ 9) (h0 : 0 < q) (hg : Nat.gcd p q = 1) (ha : textB [a] = true) (hb : textB [b] = true) (na : numOf [a] = p) (nb : numOf [b] = q) :
    Calls Try.prog 39 #[v] w fun e w' => e = .returned (.string ⟨#[a, 47, b]⟩) ∧ On w w' := by
  have h2 := Show_yes v p q w h (okF_small (by omega) (by omega) h0 hg)
  rw [dec_of [a] p ha na, dec_of [b] q hb nb] at h2
  exact h2
theorem k_gcd (va vb : Value) (w : World) (ha : Nv w va 12) (hb : Nv w vb 18) :
    Calls Try.prog 25 #[va, vb] w fun e w' => ∃ v, e = .returned v ∧ Nv w' v 6 ∧ On w w' :=
  Gcd_yes va vb 12 18 w ha hb (nl64 (by decide)) (nl64 (by decide))
theorem k_same (va vb : Value) (x : Nat) (w : World) (ha : Nv w va x) (hb : Nv w vb x) :
    Calls Try.prog 50 #[va, vb] w fun e w' => e = .returned (.bool true) ∧ On w w' := by
  have h := same_on va vb x x w ha hb
  rw [decide_eq_true rfl] at h
  exact h
theorem box_at (w : World) (a b : Value) : (w.alloc (.cells #[a, b] 41)).cell? ⟨w.heap.size, 0, none⟩ = some a ∧ (w.alloc (.cells #[a, b] 41)).cell? ⟨w.heap.size, 1, none⟩ = some b :=
  ⟨by rw [World.cell?_alloc_new]; rfl, by rw [World.cell?_alloc_new]; rfl⟩

set_option maxHeartbeats 4000000 in
set_option maxRecDepth 100000 in
theorem works_any (w : World) : Calls Try.prog 27 #[] w fun e w' => e = .returned (.bool true) ∧ On w w' := by
  go_enter Try.func27, Try.ntmps27
  go_wp2_with (first
    | (go_at_call 16; refine (k_sum _ _ _ (Nv.on (one_nv w _ 4294967295 rfl (by decide) (by decide)) ((On.refl _).alloc _)) (one_nv _ _ 1 (by simp) (by decide) (by decide))).mono ?_; rintro e w1 ⟨va, rfl, hva, hO⟩; have HVA := Lib.hid hva; have HO1 : Hid (On w w1) := (((On.refl w).alloc _).alloc _).trans hO; clear hva hO)
    | (go_at_call 23; refine (k_quo _ _ _ (Nv.on (three_nv w1 _ rfl) ((On.refl _).alloc _)) (one_nv _ _ 10 (by simp) (by decide) (by decide))).mono ?_; rintro e w2 ⟨vq, vr, rfl, hvq, hvr, hO⟩; have HVQ := Lib.hid hvq; have HVR := Lib.hid hvr; have HO2 : Hid (On w1 w2) := (((On.refl w1).alloc _).alloc _).trans hO; clear hvq hvr hO)
    | (go_at_call 49; refine (k_of w2).mono ?_; rintro e w3 ⟨vx, rfl, hx, hO⟩; have HX := Lib.hid hx; have HO3 := Lib.hid hO; obtain ⟨x1, x2, rfl, hx1, hx2⟩ := hx; obtain ⟨ox1, cx1, rfl, -, -, -⟩ := hx1; obtain ⟨ox2, cx2, rfl, -, -, -⟩ := hx2; have HBX := Lib.hid (box_at w3 (.slice ox1 (nl 3) cx1) (.slice ox2 (nl 4) cx2)); clear hO)
    | (go_at_call 30; refine (k_read _).mono ?_; rintro e w4 ⟨vy, rfl, hy, hO⟩; have HY := Lib.hid hy; have HO4 : Hid (On (w3.alloc (.cells #[.slice ox1 (nl 3) cx1, .slice ox2 (nl 4) cx2] 41)) w4) := hO; obtain ⟨y1, y2, rfl, hy1, hy2⟩ := hy; obtain ⟨oy1, cy1, rfl, -, -, -⟩ := hy1; obtain ⟨oy2, cy2, rfl, -, -, -⟩ := hy2; have HBY := Lib.hid (box_at w4 (.slice oy1 (nl 1) cy1) (.slice oy2 (nl 2) cy2)); have HX4 := Lib.hid (two_on HBX.out (HO4.out.alloc (.cells #[.slice oy1 (nl 1) cy1, .slice oy2 (nl 2) cy2] 41))); obtain ⟨hx41, hx42⟩ := HX4.out; obtain ⟨hy41, hy42⟩ := HBY.out; clear hO)
    | (go_at_call 43; refine (k_add _ _ _ (HX.out.on (((On.refl w3).alloc _).trans (HO4.out.alloc _))) (HY.out.on ((On.refl w4).alloc _))).mono ?_; rintro e w5 ⟨vz, rfl, hz, hO⟩; have HZ := Lib.hid hz; have HO5 : Hid (On (w4.alloc (.cells #[.slice oy1 (nl 1) cy1, .slice oy2 (nl 2) cy2] 41)) w5) := hO; obtain ⟨z1, z2, rfl, hz1, hz2⟩ := hz; obtain ⟨oz1, cz1, rfl, -, -, -⟩ := hz1; obtain ⟨oz2, cz2, rfl, -, -, -⟩ := hz2; have HBZ := Lib.hid (box_at w5 (.slice oz1 (nl 5) cz1) (.slice oz2 (nl 4) cz2)); clear hO hx41 hx42 hy41 hy42; have H15 : Hid (On w1 (w5.alloc (.cells #[.slice oz1 (nl 5) cz1, .slice oz2 (nl 4) cz2] 41))) := ((((HO2.out.trans HO3.out).alloc _).trans HO4.out).alloc _).trans HO5.out |>.alloc _; have H25 : Hid (On w2 (w5.alloc (.cells #[.slice oz1 (nl 5) cz1, .slice oz2 (nl 4) cz2] 41))) := (((HO3.out.alloc _).trans HO4.out).alloc _).trans HO5.out |>.alloc _; have HX5 := Lib.hid (two_on HX4.out (HO5.out.alloc (.cells #[.slice oz1 (nl 5) cz1, .slice oz2 (nl 4) cz2] 41))); have HY5 := Lib.hid (two_on HBY.out (HO5.out.alloc (.cells #[.slice oz1 (nl 5) cz1, .slice oz2 (nl 4) cz2] 41))))
    | (go_at_call 50; ((with_reducible refine (k_same va _ 4294967296 ((w5.alloc (.cells #[.slice oz1 (nl 5) cz1, .slice oz2 (nl 4) cz2] 41)).alloc (.cells #[.int .u32 0, .int .u32 1] 54)) (HVA.out.on (H15.out.alloc _)) (pair_nv _ _ 4294967296 0 1 (by simp) (by decide) (by decide) (by decide) (by decide))).mono ?_)); rintro e w6 ⟨rfl, hO⟩; have HO6 : Hid (On (w5.alloc (.cells #[.slice oz1 (nl 5) cz1, .slice oz2 (nl 4) cz2] 41)) w6) := ((On.refl _).alloc _).trans hO; clear hO)
    | (go_at_call 14; refine (k_text vq w6 (HVQ.out.on (H25.out.trans HO6.out))).mono ?_; rintro e w7 ⟨rfl, hO⟩; have HO7 := Lib.hid hO; clear hO)
    | (go_at_call 50; ((with_reducible refine (k_same vr _ 6 (w7.alloc (.cells #[.int .u32 6] 54)) (HVR.out.on (((H25.out.trans HO6.out).trans HO7.out).alloc _)) (one_nv w7 _ 6 rfl (by decide) (by decide))).mono ?_)); rintro e w8 ⟨rfl, hO⟩; have HO8 : Hid (On (w5.alloc (.cells #[.slice oz1 (nl 5) cz1, .slice oz2 (nl 4) cz2] 41)) w8) := ((HO6.out.trans HO7.out).alloc _).trans hO; obtain ⟨hx81, hx82⟩ := two_on HX5.out HO8.out; clear hO)
    | (go_at_call 39; ((with_reducible refine (k_show (.agg #[.slice ox1 (nl 3) cx1, .slice ox2 (nl 4) cx2]) 3 4 51 52 w8 (HX.out.on ((((On.refl w3).alloc _).trans (HO4.out.alloc _)).trans ((HO5.out.alloc _).trans HO8.out))) (by decide) (by decide) (by decide) (by decide) (by decide) (by decide) (by decide) (by decide)).mono ?_)); rintro e w9 ⟨rfl, hO⟩; have HO9 : Hid (On (w5.alloc (.cells #[.slice oz1 (nl 5) cz1, .slice oz2 (nl 4) cz2] 41)) w9) := HO8.out.trans hO; obtain ⟨hy91, hy92⟩ := two_on HY5.out HO9.out; clear hO hx81 hx82)
    | (go_at_call 39; ((with_reducible refine (k_show (.agg #[.slice oy1 (nl 1) cy1, .slice oy2 (nl 2) cy2]) 1 2 49 50 w9 (HY.out.on (((On.refl w4).alloc _).trans ((HO5.out.alloc _).trans HO9.out))) (by decide) (by decide) (by decide) (by decide) (by decide) (by decide) (by decide) (by decide)).mono ?_)); rintro e w10 ⟨rfl, hO⟩; have HO10 : Hid (On (w5.alloc (.cells #[.slice oz1 (nl 5) cz1, .slice oz2 (nl 4) cz2] 41)) w10) := HO9.out.trans hO; obtain ⟨hz101, hz102⟩ := two_on HBZ.out HO10.out; clear hO hy91 hy92)
    | (go_at_call 39; ((with_reducible refine (k_show (.agg #[.slice oz1 (nl 5) cz1, .slice oz2 (nl 4) cz2]) 5 4 53 52 w10 (HZ.out.on (((On.refl w5).alloc _).trans HO10.out)) (by decide) (by decide) (by decide) (by decide) (by decide) (by decide) (by decide) (by decide)).mono ?_)); rintro e w11 ⟨rfl, hO⟩; have HO11 : Hid (On (w5.alloc (.cells #[.slice oz1 (nl 5) cz1, .slice oz2 (nl 4) cz2] 41)) w11) := HO10.out.trans hO; clear hO hz101 hz102)
    | (go_at_call 25; refine (k_gcd _ _ _ (Nv.on (one_nv w11 _ 12 rfl (by decide) (by decide)) ((On.refl _).alloc _)) (one_nv _ _ 18 (by simp) (by decide) (by decide))).mono ?_; rintro e w12 ⟨vg, rfl, hg, hO⟩; have HG := Lib.hid hg; have HO12 : Hid (On (w5.alloc (.cells #[.slice oz1 (nl 5) cz1, .slice oz2 (nl 4) cz2] 41)) w12) := ((HO11.out.alloc _).alloc _).trans hO; clear hg hO)
    | (go_at_call 50; refine (k_same vg _ 6 _ (HG.out.on ((On.refl _).alloc _)) (one_nv w12 _ 6 rfl (by decide) (by decide))).mono ?_; rintro e w13 ⟨rfl, hO⟩; have HFIN : Hid (On w w13) := ((HO1.out.trans H15.out).trans (HO12.out.alloc _)).trans hO; clear hO))
  go_ret
  exact ⟨rfl, HFIN.out⟩
end Go.Proofs.Ytdgmlmcllkgemaa
