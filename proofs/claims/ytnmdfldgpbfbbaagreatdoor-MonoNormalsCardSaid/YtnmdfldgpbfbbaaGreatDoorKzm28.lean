/- Package mono: Text. -/
import Derived.Test.YtnmdfldgpbfbbaaGreatDoorKzm26
import Derived.Test.YtnmdfldgpbfbbaaGreatDoorKzm27
import Derived.Test.YtnmdfldgpbfbbaaGreatDoorKzm20
import Derived.Test.YtnmdfldgpbfbbaaGreatDoorKzm23
set_option linter.unusedSimpArgs false
set_option linter.unusedVariables false
/- Package mono: Text. -/
namespace Go.Proofs.YtnmdfldgpbfbbaaGreatDoor
open Go.Shelf Go.RowKit Go.Lib Go.Sort
set_option linter.unusedVariables false

def txtV (l : List Vr) : List UInt8 := l.flatMap fun v => 42 :: (nameB v.1 ++ itoa v.2)
def txtM (m : Mo) : List UInt8 := decDigits m.1 ++ txtV m.2
def sepB : List UInt8 := [32, 43, 32]
def txtL (s : List Mo) : List UInt8 := s.foldl (fun t m => (if t = [] then [] else t ++ sepB) ++ txtM m) []
def txtB (s : List Mo) : List UInt8 := if s = [] then [48] else txtL s
theorem txtV_snoc (l : List Vr) (v : Vr) : txtV (l ++ [v]) = txtV l ++ (42 :: (nameB v.1 ++ itoa v.2)) := by simp [txtV]
theorem dec_ne (u : Nat) : decDigits u ≠ [] := fun h => by
  have h1 := decDigits_length u
  rw [h] at h1
  have h2 := lt_pow_nDigits u
  rw [← h1] at h2
  simp at h2
  subst h2
  simp [decDigits] at h
theorem txtM_ne (m : Mo) : txtM m ≠ [] := by unfold txtM; intro h; exact dec_ne _ (List.append_eq_nil_iff.1 h).1
theorem txtL_snoc (s : List Mo) (m : Mo) : txtL (s ++ [m]) = (if txtL s = [] then [] else txtL s ++ sepB) ++ txtM m := by
  unfold txtL; rw [List.foldl_append]; rfl
theorem txtL_ne (s : List Mo) (h : s ≠ []) : txtL s ≠ [] := by
  rcases List.eq_nil_or_concat s with rfl | ⟨l, m, rfl⟩
  · exact absurd rfl h
  · rw [List.concat_eq_append, txtL_snoc]
    intro e
    exact txtM_ne m (List.append_eq_nil_iff.1 e).2
theorem itoa_len21 (n : Int) (h0 : -9223372036854775808 ≤ n) (h1 : n ≤ 9223372036854775807) : (itoa n).length ≤ 21 := by
  by_cases h : 0 ≤ n
  · obtain ⟨u, rfl⟩ : ∃ u : Nat, n = u := ⟨n.toNat, by omega⟩
    rw [itoa_nonneg, decDigits_length]
    have := nDigits_le u (by omega); omega
  · obtain ⟨u, rfl⟩ : ∃ u : Nat, n = -(u : Int) := ⟨n.natAbs, by omega⟩
    rw [itoa_neg u (by omega), List.length_cons, decDigits_length]
    have := nDigits_le u (by omega); omega
theorem name_len (k : Int) : (nameB k).length ≤ 9 := by
  unfold nameB
  repeat' split
  all_goals simp
theorem txtV_len {l : List Vr} (h : ∀ v ∈ l, okV v) : (txtV l).length ≤ 31 * l.length := by
  induction l with
  | nil => simp [txtV]
  | cons v r ih =>
    have h1 := ih (fun v hv => h v (List.mem_cons_of_mem _ hv))
    have h2 := h v List.mem_cons_self
    have h3 := itoa_len21 v.2 h2.2.2.1 h2.2.2.2
    have h4 := name_len v.1
    unfold txtV at h1 ⊢
    rw [List.flatMap_cons, List.length_append, List.length_cons, List.length_append, List.length_cons]
    omega
theorem txtL_len {s : List Mo} (h : ∀ m ∈ s, m.1 ≤ 18446744073709551615 ∧ (∀ v ∈ m.2, okV v) ∧ m.2.length ≤ 100000) : ∀ k, (txtL (s.take k)).length ≤ 4000000 * k := by
  intro k
  induction k with
  | zero => simp [txtL]
  | succ k ih =>
    rcases Nat.lt_or_ge k s.length with hk | hk
    · rw [take_snoc_m s zM k hk, txtL_snoc, List.length_append]
      have hm := h (s.getD k zM) (by rw [List.getD_eq_getElem?_getD, List.getElem?_eq_getElem hk]; exact List.getElem_mem _)
      have h1 := txtV_len hm.2.1
      have h2 := nDigits_le (s.getD k zM).1 (by omega)
      have h3 : (txtM (s.getD k zM)).length ≤ 3200000 := by
        unfold txtM; rw [List.length_append, decDigits_length]; omega
      have h4 : (if txtL (s.take k) = [] then [] else txtL (s.take k) ++ sepB).length ≤ (txtL (s.take k)).length + 3 := by
        split
        · simp
        · simp [sepB]
      omega
    · rw [List.take_of_length_le (by omega)]
      rw [List.take_of_length_le (by omega)] at ih
      omega
theorem star_name (k : Int) : True := trivial
theorem BI_on {B b : Nat} {bs : List Value} {w w' : World} (h : BI B b bs w) (k : On w w') : BI B b bs w' := by
  have key : ∀ p, BA B b p bs w → BA B b p bs w' := fun p ⟨h1, v, h2, h3, h4⟩ => by
    refine ⟨h1, v, ?_, h3.kept k.gbn (by cases v.ownBlock <;> simp), h4⟩
    rw [k.2.block b (Array.getElem?_eq_some_iff.1 h2).1]; exact h2
  rcases h with h | h
  · exact .inl (key _ h)
  · exact .inr (key _ h)
/-- A write, in bytes. -/
theorem bw_any (w0 : World) (b : Nat) (t u : List UInt8) (w : World) (hO : On w0 w) (h : BI w0.heap.size b (byteCells t) w) (hlen : t.length + u.length ≤ 140737488355328) :
    Calls Tryz.prog 28 #[.pointer (some ⟨b, 0, none⟩), .string ⟨u.toArray⟩] w fun e w' => (∃ z, e = .returned z) ∧ BI w0.heap.size b (byteCells (t ++ u)) w' ∧ On w0 w' ∧ Kp b w w' := by
  refine (bwrite_any w0.heap.size b (byteCells t) ⟨u.toArray⟩ w h (by rw [byteCells_length]; simpa [ByteArray.size] using hlen) hO.size).mono ?_
  rintro e w' ⟨rfl, h1, h2, h3⟩
  refine ⟨⟨_, rfl⟩, .inr ?_, ⟨hO.1, hO.2.trans h2⟩, h3⟩
  rw [byteCells_append]
  exact h1
theorem bw2_any (w0 : World) (b : Nat) (t u : List UInt8) (E : ByteArray) (hE : E.data.toList = u) (w : World) (hO : On w0 w) (h : BI w0.heap.size b (byteCells t) w) (hlen : t.length + u.length ≤ 140737488355328) :
    Calls Tryz.prog 28 #[.pointer (some ⟨b, 0, none⟩), .string E] w fun e w' => (∃ z, e = .returned z) ∧ BI w0.heap.size b (byteCells (t ++ u)) w' ∧ On w0 w' ∧ Kp b w w' := by
  have h2 := bw_any w0 b t u w hO h hlen
  rw [show (⟨u.toArray⟩ : ByteArray) = E by rw [← hE]] at h2
  exact h2
theorem text_nil (a : Option Addr) (c : Nat) (w : World) (hT : Tab w) : Calls Tryz.prog 10 #[.slice a 0 c] w fun e w' => e = .returned (.string ⟨#[48]⟩) ∧ On w w' := by
  have H0 := Lib.hid (On.refl hT)
  clear hT
  go_enter Tryz.func10, Tryz.ntmps10
  go_wp2
  go_ret
  exact ⟨rfl, H0.out⟩
set_option maxRecDepth 100000 in
set_option maxHeartbeats 4000000 in
theorem text_any (s : List Mo) (v : Value) (w : World) (hT : Tab w) (hP : Pw w) (hR : MRd w v s) (hs : s.length ≤ 1000) (hl : ∀ m ∈ s, m.2.length ≤ 100000) :
    Calls Tryz.prog 10 #[v] w fun e w' => e = .returned (.string ⟨(txtB s).toArray⟩) ∧ On w w' := by
  obtain ⟨aa, ca, rfl⟩ := hR.shape
  rcases Nat.eq_zero_or_pos s.length with h0 | h0
  · have hs0 : s = [] := List.length_eq_zero_iff.1 h0
    subst hs0
    exact text_nil aa ca w hT
  have hne : s ≠ [] := fun e => by subst e; simp at h0
  have hb : txtB s = txtL s := by unfold txtB; rw [if_neg hne]
  rw [hb]
  have HC := Lib.hid hR.cells
  have HLE := Lib.hid hR.le
  have HVL : Hid (∀ k, (s.getD k zM).2.length ≤ 100000) := fun k => by
    rcases Nat.lt_or_ge k s.length with h | h
    · rw [List.getD_eq_getElem?_getD, List.getElem?_eq_getElem h]; exact hl _ (List.getElem_mem _)
    · rw [List.getD_eq_getElem?_getD, List.getElem?_eq_none h]; simp
  have HTL : Hid (∀ k, k ≤ 1000 → (txtL (s.take k)).length ≤ 4000000000) := fun k hk => by
    have := txtL_len (s := s) (fun m hm => ⟨hR.1 m hm, (by
      obtain ⟨i, hi, rfl⟩ := List.getElem_of_mem hm
      obtain ⟨_, _, _, _, _, _, _, hv⟩ := hR.cells i hi
      have := hv.1
      rw [List.getD_eq_getElem?_getD, List.getElem?_eq_getElem hi] at this
      exact this), hl m hm⟩) k
    omega
  obtain ⟨w1, hw1⟩ : ∃ w1, w1 = w.alloc (.cells #[.pointer none, .slice none 0 0] 59) := ⟨_, rfl⟩
  obtain ⟨B, hBB⟩ : ∃ B, B = w.heap.size := ⟨_, rfl⟩
  have hO1 : On w w1 := by rw [hw1]; exact (On.refl hT).alloc _
  have HBI : Hid (BI w.heap.size B (byteCells (txtL (s.take 0))) w1) := by
    unfold Hid; rw [hBB, hw1, List.take_zero]; exact fresh_isBuilder 59 5 w
  have HO1 := Lib.hid hO1
  have HW1 := Lib.hid hw1
  have HB := Lib.hid hBB
  have HP := Lib.hid hP
  obtain ⟨n, hn⟩ : ∃ n, s.length = n := ⟨_, rfl⟩
  have HN := Lib.hid hn
  rw [hn] at HC hs h0 ⊢
  have hn0 : ¬ (n : Int) = 0 := by omega
  have en := beq_no hn0
  clear hT hP hR hl hne hb hw1 hBB hO1 hn hn0
  go_enter Tryz.func10, Tryz.ntmps10
  go_upto_region 4 with fail
  rw [← HB.out, ← HW1.out]
  go_wp2_with fail
  go_loopw [13] (fun vi wr => ∃ k : Nat, k ≤ n ∧ vi = .int .i64 (k : Int) ∧ Hid (BI w.heap.size B (byteCells (txtL (s.take k))) wr) ∧ Hid (On w wr)) (fun vi _ => n - (intOf vi).toNat)
  case atStart => exact ⟨0, Nat.zero_le _, rfl, HBI, HO1⟩
  case round =>
    rename World => wr
    obtain ⟨k, hk, rfl, HBK, HO⟩ := hrel
    by_cases hlt : k < n
    · obtain ⟨g, o, a', c', rfl, c0, c1, c2⟩ := HC.out k hlt
      have hlt' : (k : Int) < (n : Int) := by omega
      have c0' := (HO.out.cell (p := ⟨g, o + k * 2, none⟩) (cell_size c0)).trans c0
      have c1' := (HO.out.cell (p := ⟨g, o + k * 2 + 1, none⟩) (cell_size c1)).trans c1
      have hle := HLE.out k
      have hvl := HVL.out k
      have HXV := Lib.hid c2
      have HTS := Lib.hid (take_snoc_m s zM k (by rw [HN.out]; exact hlt))
      have HT1 := Lib.hid (HTL.out (k + 1) (by omega))
      obtain ⟨x, hx⟩ : ∃ x, x = s.getD k zM := ⟨_, rfl⟩
      rw [← hx] at c0' c1' hle hvl HXV HTS
      have HT2 : Hid (txtL (s.take (k + 1)) = (if txtL (s.take k) = [] then [] else txtL (s.take k) ++ sepB) ++ txtM x) := by unfold Hid; rw [HTS.out, txtL_snoc]
      clear c0 c1 c2 hx HTS
      obtain ⟨xc, xv⟩ := x
      simp only at c0' c1' hle hvl HXV
      obtain ⟨xl, hxl⟩ : ∃ xl, xv.length = xl := ⟨_, rfl⟩
      have HXL := Lib.hid hxl
      rw [hxl] at c1' hvl HXV
      clear hxl
      obtain ⟨w2, hw2⟩ : ∃ w2, w2 = wr.alloc (.cells #[.int .u64 ((xc : Nat) : Int), .slice a' xl c'] 34) := ⟨_, rfl⟩
      obtain ⟨Q, hQ⟩ : ∃ Q, Q = wr.heap.size := ⟨_, rfl⟩
      have hO2 : On wr w2 := by rw [hw2]; exact (On.refl HO.out.tab).alloc _
      have hQ2 : w2.heap[Q]? = some (.cells #[.int .u64 ((xc : Nat) : Int), .slice a' xl c'] 34 (0, 0)) := by rw [hQ, hw2]; exact heap_alloc_new _ _
      have hB8 : B < wr.heap.size := by
        rcases HBK.out with h | h
        · exact h.lt
        · exact h.lt
      have hQB : Q ≠ B := by omega
      have HBI2 := Lib.hid (BI_on HBK.out hO2)
      have HO2 := Lib.hid (HO.out.trans hO2)
      have HQ2 := Lib.hid hQ2
      have HW2 := Lib.hid hw2
      have HQ := Lib.hid hQ
      have HQB := Lib.hid hQB
      clear hw2 hQ hO2 hQ2 hQB HBK hB8
      go_upto_region 7 with fail
      rw [← HQ.out, ← HW2.out]
      have HTK := Lib.hid (HTL.out k (by omega))
      rcases Nat.eq_zero_or_pos k with hk0 | hk0
      · subst hk0
        obtain ⟨T1, hT1⟩ : ∃ T1 : List UInt8, T1 = [] := ⟨_, rfl⟩
        have HT2 : Hid (txtL (s.take (0 + 1)) = T1 ++ txtM (xc, xv)) := by unfold Hid; rw [hT1, HT2.out, if_pos (by simp [txtL])]
        have HBX : Hid (BI w.heap.size B (byteCells T1) w2) := by rw [hT1]; exact HBI2.out
        have hTL : T1.length ≤ 4000000100 := by rw [hT1]; simp
        have HOX := HO2
        have HQX := HQ2
        clear hT1 HBI2 HO2 HQ2 HTK
        have HF := Lib.hid (fmt_any xc (by omega) w2 HOX.out.tab (HP.out.on HOX.out))
        have q0 : w2.cell? ⟨Q, 0, none⟩ = some (.int .u64 ((xc : Nat) : Int)) := by have := HQX.out; simp [World.cell?, this]
        go_wp2_with (go_at_call 29; refine HF.out.mono ?_; rintro e w4 ⟨rfl, hO4⟩; refine Hid.out ?_)
        refine Lib.hid ?_
        clear q0 HF
        have hQ4 : w4.heap[Q]? = some (.cells #[.int .u64 ((xc : Nat) : Int), .slice a' xl c'] 34 (0, 0)) := by rw [hO4.2.block Q (Array.getElem?_eq_some_iff.1 HQX.out).1]; exact HQX.out
        have hdl := nDigits_le xc (by omega)
        have hxv := txtV_len HXV.out.1
        have hxll := HXL.out
        have HWR := Lib.hid (bw_any w B T1 (decDigits xc) w4 (HOX.out.trans hO4) (BI_on HBX.out hO4) (by rw [decDigits_length]; omega))
        have HQ4 := Lib.hid hQ4
        clear hQ4 hO4 HBX HOX HQX
        go_wp2_with (go_at_call 28; refine HWR.out.mono ?_; rintro e w5 ⟨⟨z, rfl⟩, hB5, hO5, hK5⟩; refine Hid.out ?_)
        refine Lib.hid ?_
        have hQ5 : w5.heap[Q]? = some (.cells #[.int .u64 ((xc : Nat) : Int), .slice a' xl c'] 34 (0, 0)) := by
          rw [hK5 Q (Array.getElem?_eq_some_iff.1 HQ4.out).1 HQB.out (fun cur fz e => by rw [HQ4.out] at e; simp at e)]; exact HQ4.out
        have q1 : w5.cell? ⟨Q, 1, none⟩ = some (.slice a' xl c') := by simp [World.cell?, hQ5]
        have HB5 : Hid (BI w.heap.size B (byteCells (T1 ++ decDigits xc ++ txtV (xv.take 0))) w5) := by unfold Hid; rw [List.take_zero, show txtV [] = [] from rfl, List.append_nil]; exact hB5
        have HO5 := Lib.hid hO5
        clear hQ5 hB5 hO5 hK5 HQ4 HWR
        go_wp2_with fail
        clear q1
        go_loopw [28] (fun vj wq => ∃ j : Nat, j ≤ xl ∧ vj = .int .i64 (j : Int) ∧ Hid (BI w.heap.size B (byteCells (T1 ++ decDigits xc ++ txtV (xv.take j))) wq) ∧ Hid (On w wq)) (fun vj _ => xl - (intOf vj).toNat)
        case atStart => exact ⟨0, Nat.zero_le _, rfl, HB5, HO5⟩
        case round =>
          rename World => wq0
          obtain ⟨j, hj, rfl, HBJ, HOJ⟩ := hrel
          by_cases hjt : j < xl
          · obtain ⟨g2, o2, rfl, d0, d1⟩ := (HXV.out.on HOJ.out).cells j (by rw [HXL.out]; exact hjt)
            have hjt' : (j : Int) < (xl : Int) := by omega
            have hok := HXV.out.ok j
            have HSN := Lib.hid (take_snoc_m xv zV j (by rw [HXL.out]; exact hjt))
            have hVT := txtV_len (l := xv.take j) (fun v hv => HXV.out.1 v (List.mem_of_mem_take hv))
            rw [take_len xv j (by rw [HXL.out]; omega)] at hVT
            obtain ⟨y, hy⟩ : ∃ y, y = xv.getD j zV := ⟨_, rfl⟩
            rw [← hy] at d0 d1 hok HSN
            clear hy
            obtain ⟨yk, yi⟩ := y
            simp only at d0 d1
            have HOK := Lib.hid hok
            have hil := itoa_len21 yi hok.2.2.1 hok.2.2.2
            have hnl := name_len yk
            clear hok
            obtain ⟨wb, hwb⟩ : ∃ wb, wb = wq0.alloc (.cells #[.int .u8 yk, .int .i64 yi] 39) := ⟨_, rfl⟩
            have hOb : On wq0 wb := by rw [hwb]; exact (On.refl HOJ.out.tab).alloc _
            have y0 : wb.cell? ⟨wq0.heap.size, 0, none⟩ = some (.int .u8 yk) := by rw [hwb, World.cell?_alloc_new]; rfl
            have y1 : wb.cell? ⟨wq0.heap.size, 1, none⟩ = some (.int .i64 yi) := by rw [hwb, World.cell?_alloc_new]; rfl
            have HOB := Lib.hid (HOJ.out.trans hOb)
            have HBB := Lib.hid (BI_on HBJ.out hOb)
            have HWB := Lib.hid hwb
            have HNM := Lib.hid (fun (wx : World) (h : On wb wx) => (name_any yk wx).mono fun e w' ⟨he, ho⟩ => (⟨he, by rw [← ho]; exact h⟩ : _ ∧ On wb w'))
            have HIT := Lib.hid (fun (wx : World) (h : On wb wx) => (itoa_any yi HOK.out.2.2.1 HOK.out.2.2.2 wx h.tab (HP.out.on (HOB.out.trans h))).mono fun e w' ⟨he, ho⟩ => (⟨he, h.trans ho⟩ : _ ∧ On wb w'))
            clear hwb hOb HBJ
            go_upto_region 13 with fail
            rw [← HWB.out]
            refine region_keep_tail (fun wx => On wb wx) 8 (by kernel_rfl) (by kernel_rfl) (On.refl HOB.out.tab).drew ?_
            simp only [List.take_succ_cons, List.take_zero, List.drop_succ_cons, List.drop_zero]
            refine quiet_start fun L9 hL9 => ?_
            refine quiet_take (v := ?ktw2v0) hL9 (by kernel_rfl) (fun wq hwq => ?ktw2y0) (fun L9 hL9 => ?ktw2r0)
            case ktw2y0 => (go_simp; try with_reducible rfl)
            try simp only [Act.put, List.setIfInBounds_toArray, List.set_cons_zero, List.set_cons_succ]
            refine quiet_take (v := ?ktw2v1) hL9 (by kernel_rfl) (fun wq hwq => ?ktw2y1) (fun L9 hL9 => ?ktw2r1)
            case ktw2y1 => (have k0 := (hwq.cell (p := ⟨wq0.heap.size, 0, none⟩) (cell_size y0)).trans y0; have k1 := (hwq.cell (p := ⟨wq0.heap.size, 1, none⟩) (cell_size y1)).trans y1; have hc1 : ¬ 9223372036854775807 < 1 + (nameB yk).length := (by omega); have hc2 : ¬ 9223372036854775807 < 1 + (nameB yk).length + (itoa yi).length := (by omega); have hc3 : ¬ 9223372036854775807 < (nameB yk).length + 1 + (itoa yi).length := (by omega); go_simp; try with_reducible rfl)
            try simp only [Act.put, List.setIfInBounds_toArray, List.set_cons_zero, List.set_cons_succ]
            refine quiet_take (v := .string ⟨(nameB yk).toArray⟩) hL9 (by kernel_rfl) (fun wq hwq => ?ktw2y2) (fun L9 hL9 => ?ktw2r2)
            case ktw2y2 => (go_simp; go_at_call 30; exact HNM.out _ hwq)
            try simp only [Act.put, List.setIfInBounds_toArray, List.set_cons_zero, List.set_cons_succ]
            refine quiet_take (v := ?ktw2v3) hL9 (by kernel_rfl) (fun wq hwq => ?ktw2y3) (fun L9 hL9 => ?ktw2r3)
            case ktw2y3 => (have k0 := (hwq.cell (p := ⟨wq0.heap.size, 0, none⟩) (cell_size y0)).trans y0; have k1 := (hwq.cell (p := ⟨wq0.heap.size, 1, none⟩) (cell_size y1)).trans y1; have hc1 : ¬ 9223372036854775807 < 1 + (nameB yk).length := (by omega); have hc2 : ¬ 9223372036854775807 < 1 + (nameB yk).length + (itoa yi).length := (by omega); have hc3 : ¬ 9223372036854775807 < (nameB yk).length + 1 + (itoa yi).length := (by omega); go_simp; try with_reducible rfl)
            try simp only [Act.put, List.setIfInBounds_toArray, List.set_cons_zero, List.set_cons_succ]
            refine quiet_take (v := ?ktw2v4) hL9 (by kernel_rfl) (fun wq hwq => ?ktw2y4) (fun L9 hL9 => ?ktw2r4)
            case ktw2y4 => (go_simp; try with_reducible rfl)
            try simp only [Act.put, List.setIfInBounds_toArray, List.set_cons_zero, List.set_cons_succ]
            refine quiet_take (v := ?ktw2v5) hL9 (by kernel_rfl) (fun wq hwq => ?ktw2y5) (fun L9 hL9 => ?ktw2r5)
            case ktw2y5 => (have k0 := (hwq.cell (p := ⟨wq0.heap.size, 0, none⟩) (cell_size y0)).trans y0; have k1 := (hwq.cell (p := ⟨wq0.heap.size, 1, none⟩) (cell_size y1)).trans y1; have hc1 : ¬ 9223372036854775807 < 1 + (nameB yk).length := (by omega); have hc2 : ¬ 9223372036854775807 < 1 + (nameB yk).length + (itoa yi).length := (by omega); have hc3 : ¬ 9223372036854775807 < (nameB yk).length + 1 + (itoa yi).length := (by omega); go_simp; try with_reducible rfl)
            try simp only [Act.put, List.setIfInBounds_toArray, List.set_cons_zero, List.set_cons_succ]
            refine quiet_take (v := .string ⟨(itoa yi).toArray⟩) hL9 (by kernel_rfl) (fun wq hwq => ?ktw2y6) (fun L9 hL9 => ?ktw2r6)
            case ktw2y6 => (go_simp; go_at_call 31; exact HIT.out _ hwq)
            try simp only [Act.put, List.setIfInBounds_toArray, List.set_cons_zero, List.set_cons_succ]
            refine quiet_take (v := ?ktw2v7) hL9 (by kernel_rfl) (fun wq hwq => ?ktw2y7) (fun L9 hL9 => ?ktw2r7)
            case ktw2y7 => (have k0 := (hwq.cell (p := ⟨wq0.heap.size, 0, none⟩) (cell_size y0)).trans y0; have k1 := (hwq.cell (p := ⟨wq0.heap.size, 1, none⟩) (cell_size y1)).trans y1; have hc1 : ¬ 9223372036854775807 < 1 + (nameB yk).length := (by omega); have hc2 : ¬ 9223372036854775807 < 1 + (nameB yk).length + (itoa yi).length := (by omega); have hc3 : ¬ 9223372036854775807 < (nameB yk).length + 1 + (itoa yi).length := (by omega); go_simp; try with_reducible rfl)
            try simp only [Act.put, List.setIfInBounds_toArray, List.set_cons_zero, List.set_cons_succ]
            refine quiet_nil hL9 ?_
            clear hL9
            intro w6 hX6
            have HW6 := Lib.hid (fun (E : ByteArray) (hE : E.data.toList = 42 :: (nameB yk ++ itoa yi)) => bw2_any w B (T1 ++ decDigits xc ++ txtV (xv.take j)) (42 :: (nameB yk ++ itoa yi)) E hE w6 (HOB.out.trans hX6) (BI_on HBB.out hX6) (by rw [List.length_append, List.length_append, List.length_cons, List.length_append, decDigits_length]; omega))
            clear hX6 y0 y1 HNM HIT HBB HOB
            go_wp2_with (go_at_call 28; refine (HW6.out _ (by simp)).mono ?_; rintro e w7 ⟨⟨z, rfl⟩, hB7, hO7, -⟩)
            have HB7 : Hid (BI w.heap.size B (byteCells (T1 ++ decDigits xc ++ txtV (xv.take (j + 1)))) w7) := by unfold Hid; rw [HSN.out, txtV_snoc, ← List.append_assoc]; exact hB7
            have HO7 := Lib.hid hO7
            clear hB7 hO7 HW6
            go_wp2
            go_roundw
            case rel => exact ⟨j + 1, by omega, by simp, HB7, HO7⟩
            case measure => simp [intOf]; omega
          · obtain rfl : j = xl := by omega
            have HB8 : Hid (BI w.heap.size B (byteCells (txtL (s.take (0 + 1)))) wq0) := by
              have h := HBJ.out
              rw [← HXL.out, List.take_length, List.append_assoc] at h
              unfold Hid
              rw [HT2.out]
              exact h
            clear HBJ
            go_wp2
            go_roundw
            case rel => exact ⟨0 + 1, by omega, by simp, HB8, HOJ⟩
            case measure => simp [intOf]; omega
      · obtain ⟨T1, hT1⟩ : ∃ T1 : List UInt8, T1 = txtL (s.take k) ++ sepB := ⟨_, rfl⟩
        have hkn : txtL (s.take k) ≠ [] := txtL_ne _ (fun e => by have := congrArg List.length e; rw [List.length_take, List.length_nil, HN.out] at this; omega)
        have HT2 : Hid (txtL (s.take (k + 1)) = T1 ++ txtM (xc, xv)) := by unfold Hid; rw [hT1, HT2.out, if_neg hkn]
        have hTL : T1.length ≤ 4000000100 := by rw [hT1, List.length_append]; have := HTK.out; simp [sepB]; omega
        have HWS := Lib.hid (bw_any w B (txtL (s.take k)) sepB w2 HO2.out HBI2.out (by have := HTK.out; simp [sepB]; omega))
        rw [← hT1] at HWS
        have hk1 : (0 : Int) < (k : Int) := by omega
        clear hkn hT1 HBI2
        go_wp2_with (go_at_call 28; refine HWS.out.mono ?_; rintro e w3 ⟨⟨z, rfl⟩, hB3, hO3, hK3⟩; refine Hid.out ?_)
        refine Lib.hid ?_
        have HQX : Hid (w3.heap[Q]? = some (.cells #[.int .u64 ((xc : Nat) : Int), .slice a' xl c'] 34 (0, 0))) := by
          unfold Hid
          rw [hK3 Q (Array.getElem?_eq_some_iff.1 HQ2.out).1 HQB.out (fun cur fz e => by rw [HQ2.out] at e; simp at e)]; exact HQ2.out
        have HBX := Lib.hid hB3
        have HOX := Lib.hid hO3
        clear hB3 hO3 hK3 HWS HQ2 HO2 HTK
        have HF := Lib.hid (fmt_any xc (by omega) w3 HOX.out.tab (HP.out.on HOX.out))
        have q0 : w3.cell? ⟨Q, 0, none⟩ = some (.int .u64 ((xc : Nat) : Int)) := by have := HQX.out; simp [World.cell?, this]
        go_wp2_with (go_at_call 29; refine HF.out.mono ?_; rintro e w4 ⟨rfl, hO4⟩; refine Hid.out ?_)
        refine Lib.hid ?_
        clear q0 HF
        have hQ4 : w4.heap[Q]? = some (.cells #[.int .u64 ((xc : Nat) : Int), .slice a' xl c'] 34 (0, 0)) := by rw [hO4.2.block Q (Array.getElem?_eq_some_iff.1 HQX.out).1]; exact HQX.out
        have hdl := nDigits_le xc (by omega)
        have hxv := txtV_len HXV.out.1
        have hxll := HXL.out
        have HWR := Lib.hid (bw_any w B T1 (decDigits xc) w4 (HOX.out.trans hO4) (BI_on HBX.out hO4) (by rw [decDigits_length]; omega))
        have HQ4 := Lib.hid hQ4
        clear hQ4 hO4 HBX HOX HQX
        go_wp2_with (go_at_call 28; refine HWR.out.mono ?_; rintro e w5 ⟨⟨z, rfl⟩, hB5, hO5, hK5⟩; refine Hid.out ?_)
        refine Lib.hid ?_
        have hQ5 : w5.heap[Q]? = some (.cells #[.int .u64 ((xc : Nat) : Int), .slice a' xl c'] 34 (0, 0)) := by
          rw [hK5 Q (Array.getElem?_eq_some_iff.1 HQ4.out).1 HQB.out (fun cur fz e => by rw [HQ4.out] at e; simp at e)]; exact HQ4.out
        have q1 : w5.cell? ⟨Q, 1, none⟩ = some (.slice a' xl c') := by simp [World.cell?, hQ5]
        have HB5 : Hid (BI w.heap.size B (byteCells (T1 ++ decDigits xc ++ txtV (xv.take 0))) w5) := by unfold Hid; rw [List.take_zero, show txtV [] = [] from rfl, List.append_nil]; exact hB5
        have HO5 := Lib.hid hO5
        clear hQ5 hB5 hO5 hK5 HQ4 HWR
        go_wp2_with fail
        clear q1
        go_loopw [28] (fun vj wq => ∃ j : Nat, j ≤ xl ∧ vj = .int .i64 (j : Int) ∧ Hid (BI w.heap.size B (byteCells (T1 ++ decDigits xc ++ txtV (xv.take j))) wq) ∧ Hid (On w wq)) (fun vj _ => xl - (intOf vj).toNat)
        case atStart => exact ⟨0, Nat.zero_le _, rfl, HB5, HO5⟩
        case round =>
          rename World => wq0
          obtain ⟨j, hj, rfl, HBJ, HOJ⟩ := hrel
          by_cases hjt : j < xl
          · obtain ⟨g2, o2, rfl, d0, d1⟩ := (HXV.out.on HOJ.out).cells j (by rw [HXL.out]; exact hjt)
            have hjt' : (j : Int) < (xl : Int) := by omega
            have hok := HXV.out.ok j
            have HSN := Lib.hid (take_snoc_m xv zV j (by rw [HXL.out]; exact hjt))
            have hVT := txtV_len (l := xv.take j) (fun v hv => HXV.out.1 v (List.mem_of_mem_take hv))
            rw [take_len xv j (by rw [HXL.out]; omega)] at hVT
            obtain ⟨y, hy⟩ : ∃ y, y = xv.getD j zV := ⟨_, rfl⟩
            rw [← hy] at d0 d1 hok HSN
            clear hy
            obtain ⟨yk, yi⟩ := y
            simp only at d0 d1
            have HOK := Lib.hid hok
            have hil := itoa_len21 yi hok.2.2.1 hok.2.2.2
            have hnl := name_len yk
            clear hok
            obtain ⟨wb, hwb⟩ : ∃ wb, wb = wq0.alloc (.cells #[.int .u8 yk, .int .i64 yi] 39) := ⟨_, rfl⟩
            have hOb : On wq0 wb := by rw [hwb]; exact (On.refl HOJ.out.tab).alloc _
            have y0 : wb.cell? ⟨wq0.heap.size, 0, none⟩ = some (.int .u8 yk) := by rw [hwb, World.cell?_alloc_new]; rfl
            have y1 : wb.cell? ⟨wq0.heap.size, 1, none⟩ = some (.int .i64 yi) := by rw [hwb, World.cell?_alloc_new]; rfl
            have HOB := Lib.hid (HOJ.out.trans hOb)
            have HBB := Lib.hid (BI_on HBJ.out hOb)
            have HWB := Lib.hid hwb
            have HNM := Lib.hid (fun (wx : World) (h : On wb wx) => (name_any yk wx).mono fun e w' ⟨he, ho⟩ => (⟨he, by rw [← ho]; exact h⟩ : _ ∧ On wb w'))
            have HIT := Lib.hid (fun (wx : World) (h : On wb wx) => (itoa_any yi HOK.out.2.2.1 HOK.out.2.2.2 wx h.tab (HP.out.on (HOB.out.trans h))).mono fun e w' ⟨he, ho⟩ => (⟨he, h.trans ho⟩ : _ ∧ On wb w'))
            clear hwb hOb HBJ
            go_upto_region 13 with fail
            rw [← HWB.out]
            refine region_keep_tail (fun wx => On wb wx) 8 (by kernel_rfl) (by kernel_rfl) (On.refl HOB.out.tab).drew ?_
            simp only [List.take_succ_cons, List.take_zero, List.drop_succ_cons, List.drop_zero]
            refine quiet_start fun L9 hL9 => ?_
            refine quiet_take (v := ?ktw3v0) hL9 (by kernel_rfl) (fun wq hwq => ?ktw3y0) (fun L9 hL9 => ?ktw3r0)
            case ktw3y0 => (go_simp; try with_reducible rfl)
            try simp only [Act.put, List.setIfInBounds_toArray, List.set_cons_zero, List.set_cons_succ]
            refine quiet_take (v := ?ktw3v1) hL9 (by kernel_rfl) (fun wq hwq => ?ktw3y1) (fun L9 hL9 => ?ktw3r1)
            case ktw3y1 => (have k0 := (hwq.cell (p := ⟨wq0.heap.size, 0, none⟩) (cell_size y0)).trans y0; have k1 := (hwq.cell (p := ⟨wq0.heap.size, 1, none⟩) (cell_size y1)).trans y1; have hc1 : ¬ 9223372036854775807 < 1 + (nameB yk).length := (by omega); have hc2 : ¬ 9223372036854775807 < 1 + (nameB yk).length + (itoa yi).length := (by omega); have hc3 : ¬ 9223372036854775807 < (nameB yk).length + 1 + (itoa yi).length := (by omega); go_simp; try with_reducible rfl)
            try simp only [Act.put, List.setIfInBounds_toArray, List.set_cons_zero, List.set_cons_succ]
            refine quiet_take (v := .string ⟨(nameB yk).toArray⟩) hL9 (by kernel_rfl) (fun wq hwq => ?ktw3y2) (fun L9 hL9 => ?ktw3r2)
            case ktw3y2 => (go_simp; go_at_call 30; exact HNM.out _ hwq)
            try simp only [Act.put, List.setIfInBounds_toArray, List.set_cons_zero, List.set_cons_succ]
            refine quiet_take (v := ?ktw3v3) hL9 (by kernel_rfl) (fun wq hwq => ?ktw3y3) (fun L9 hL9 => ?ktw3r3)
            case ktw3y3 => (have k0 := (hwq.cell (p := ⟨wq0.heap.size, 0, none⟩) (cell_size y0)).trans y0; have k1 := (hwq.cell (p := ⟨wq0.heap.size, 1, none⟩) (cell_size y1)).trans y1; have hc1 : ¬ 9223372036854775807 < 1 + (nameB yk).length := (by omega); have hc2 : ¬ 9223372036854775807 < 1 + (nameB yk).length + (itoa yi).length := (by omega); have hc3 : ¬ 9223372036854775807 < (nameB yk).length + 1 + (itoa yi).length := (by omega); go_simp; try with_reducible rfl)
            try simp only [Act.put, List.setIfInBounds_toArray, List.set_cons_zero, List.set_cons_succ]
            refine quiet_take (v := ?ktw3v4) hL9 (by kernel_rfl) (fun wq hwq => ?ktw3y4) (fun L9 hL9 => ?ktw3r4)
            case ktw3y4 => (go_simp; try with_reducible rfl)
            try simp only [Act.put, List.setIfInBounds_toArray, List.set_cons_zero, List.set_cons_succ]
            refine quiet_take (v := ?ktw3v5) hL9 (by kernel_rfl) (fun wq hwq => ?ktw3y5) (fun L9 hL9 => ?ktw3r5)
            case ktw3y5 => (have k0 := (hwq.cell (p := ⟨wq0.heap.size, 0, none⟩) (cell_size y0)).trans y0; have k1 := (hwq.cell (p := ⟨wq0.heap.size, 1, none⟩) (cell_size y1)).trans y1; have hc1 : ¬ 9223372036854775807 < 1 + (nameB yk).length := (by omega); have hc2 : ¬ 9223372036854775807 < 1 + (nameB yk).length + (itoa yi).length := (by omega); have hc3 : ¬ 9223372036854775807 < (nameB yk).length + 1 + (itoa yi).length := (by omega); go_simp; try with_reducible rfl)
            try simp only [Act.put, List.setIfInBounds_toArray, List.set_cons_zero, List.set_cons_succ]
            refine quiet_take (v := .string ⟨(itoa yi).toArray⟩) hL9 (by kernel_rfl) (fun wq hwq => ?ktw3y6) (fun L9 hL9 => ?ktw3r6)
            case ktw3y6 => (go_simp; go_at_call 31; exact HIT.out _ hwq)
            try simp only [Act.put, List.setIfInBounds_toArray, List.set_cons_zero, List.set_cons_succ]
            refine quiet_take (v := ?ktw3v7) hL9 (by kernel_rfl) (fun wq hwq => ?ktw3y7) (fun L9 hL9 => ?ktw3r7)
            case ktw3y7 => (have k0 := (hwq.cell (p := ⟨wq0.heap.size, 0, none⟩) (cell_size y0)).trans y0; have k1 := (hwq.cell (p := ⟨wq0.heap.size, 1, none⟩) (cell_size y1)).trans y1; have hc1 : ¬ 9223372036854775807 < 1 + (nameB yk).length := (by omega); have hc2 : ¬ 9223372036854775807 < 1 + (nameB yk).length + (itoa yi).length := (by omega); have hc3 : ¬ 9223372036854775807 < (nameB yk).length + 1 + (itoa yi).length := (by omega); go_simp; try with_reducible rfl)
            try simp only [Act.put, List.setIfInBounds_toArray, List.set_cons_zero, List.set_cons_succ]
            refine quiet_nil hL9 ?_
            clear hL9
            intro w6 hX6
            have HW6 := Lib.hid (fun (E : ByteArray) (hE : E.data.toList = 42 :: (nameB yk ++ itoa yi)) => bw2_any w B (T1 ++ decDigits xc ++ txtV (xv.take j)) (42 :: (nameB yk ++ itoa yi)) E hE w6 (HOB.out.trans hX6) (BI_on HBB.out hX6) (by rw [List.length_append, List.length_append, List.length_cons, List.length_append, decDigits_length]; omega))
            clear hX6 y0 y1 HNM HIT HBB HOB
            go_wp2_with (go_at_call 28; refine (HW6.out _ (by simp)).mono ?_; rintro e w7 ⟨⟨z, rfl⟩, hB7, hO7, -⟩)
            have HB7 : Hid (BI w.heap.size B (byteCells (T1 ++ decDigits xc ++ txtV (xv.take (j + 1)))) w7) := by unfold Hid; rw [HSN.out, txtV_snoc, ← List.append_assoc]; exact hB7
            have HO7 := Lib.hid hO7
            clear hB7 hO7 HW6
            go_wp2
            go_roundw
            case rel => exact ⟨j + 1, by omega, by simp, HB7, HO7⟩
            case measure => simp [intOf]; omega
          · obtain rfl : j = xl := by omega
            have HB8 : Hid (BI w.heap.size B (byteCells (txtL (s.take (k + 1)))) wq0) := by
              have h := HBJ.out
              rw [← HXL.out, List.take_length, List.append_assoc] at h
              unfold Hid
              rw [HT2.out]
              exact h
            clear HBJ
            go_wp2
            go_roundw
            case rel => exact ⟨k + 1, by omega, by simp, HB8, HOJ⟩
            case measure => simp [intOf]; omega
    · obtain rfl : k = n := by omega
      have HST := HBK.out
      rw [← HN.out, List.take_length] at HST
      have HCS := Lib.hid (Tryz.Builder_String_any w.heap.size B (txtL s) wr HST HO.out.size)
      clear HST HBK
      go_wp2_with (go_at_call 32; refine HCS.out.mono ?_; rintro e w6 ⟨rfl, hB6⟩)
      go_ret
      exact ⟨rfl, HO.out.1, HO.out.2.trans hB6⟩
end Go.Proofs.YtnmdfldgpbfbbaaGreatDoor

/- The document's decimal, word, index. -/
namespace Go.Proofs.YtnmdfldgpbfbbaaGreatDoor
open Go.Shelf Go.RowKit Go.Lib Go.Sort
set_option linter.unusedVariables false

theorem dec_small {j : Nat} (h : j < 10) : decDigits j = [UInt8.ofNat (48 + j)] := by rw [decDigits, dif_pos h]
theorem dec_big {j : Nat} (h : ¬ j < 10) : decDigits j = decDigits (j / 10) ++ [UInt8.ofNat (48 + j % 10)] := by rw [decDigits, dif_neg h]
theorem one_string (W : World) (b cap : Nat) (c : Nat) (hc : c < 256) (h : W.cell? ⟨b, 0, none⟩ = some (.int .u8 ((c : Nat) : Int))) :
    (convert 57 9 (.slice (some ⟨b, 0, none⟩) 1 cap)).run Tryz.prog W = .ok (.string ⟨#[UInt8.ofNat c]⟩) W := by
  have h2 := run_convert_bytes_back (P := Tryz.prog) W 57 9 5 ⟨b, 0, none⟩ cap [UInt8.ofNat c] Tryz.underlying57 Tryz.underlying5 Tryz.underlying9 (fun j hj => by
    obtain rfl : j = 0 := by simp at hj; omega
    rw [add_plain, Nat.zero_add, h]
    have : (UInt8.ofNat c).toNat = c := by rw [UInt8.toNat_ofNat']; exact Nat.mod_eq_of_lt hc
    simp [this])
  exact h2
theorem str_cat (a b : List UInt8) : (⟨a.toArray⟩ : ByteArray) ++ ⟨b.toArray⟩ = ⟨(a ++ b).toArray⟩ := by
  apply ByteArray.ext
  simp
set_option maxRecDepth 100000 in
theorem rdec_any (n : Nat) (hn : n < 18446744073709551616) (w : World) (hT : Tab w) :
    Calls Tryz.prog 33 #[.int .u64 (n : Int)] w fun e w' => e = .returned (.string ⟨(decDigits n).toArray⟩) ∧ On w w' := by
  have H0 := Lib.hid (On.refl hT)
  have HL : Hid ((decDigits n).length ≤ 20) := by unfold Hid; rw [decDigits_length]; exact nDigits_le n hn
  clear hT
  go_enter Tryz.func33, Tryz.ntmps33
  go_wp2_with fail
  go_loopw [0, 3] (fun vn vs wr => ∃ (j : Nat) (t : List UInt8), vn = .int .u64 (j : Int) ∧ j < 18446744073709551616 ∧ vs = .string ⟨t.toArray⟩ ∧ Hid (decDigits n = decDigits j ++ t) ∧ Hid (On w wr)) (fun vn _ _ => (intOf vn).toNat)
  case atStart => exact ⟨n, [], rfl, hn, rfl, Lib.hid (by simp), H0⟩
  case round =>
    rename World => wr
    obtain ⟨j, t, rfl, hj, rfl, HE, HO⟩ := hrel
    have htl : t.length ≤ 20 := by have h := HL.out; rw [HE.out, List.length_append] at h; omega
    by_cases h10 : j < 10
    · have h10' : ¬ (10 : Int) ≤ (j : Int) := by omega
      have hcv := one_string (wr.alloc (.cells #[.int .u8 ((48 + j : Nat) : Int)] 5)) wr.heap.size 1 (48 + j) (by omega) (by rw [World.cell?_alloc_new]; rfl)
      rw [show ((48 + j : Nat) : Int) = 48 + (j : Int) from by omega] at hcv
      have hcc : ¬ 9223372036854775807 < 1 + t.length := by omega
      rw [dec_small h10] at HE
      go_wp2
      go_ret
      exact ⟨by rw [HE.out]; simp [str_cat], HO.out.alloc _⟩
    · have h10' : (10 : Int) ≤ (j : Int) := by omega
      have hcv := one_string (wr.alloc (.cells #[.int .u8 ((48 + j % 10 : Nat) : Int)] 5)) wr.heap.size 1 (48 + j % 10) (by omega) (by rw [World.cell?_alloc_new]; rfl)
      rw [show ((48 + j % 10 : Nat) : Int) = 48 + (j : Int) % 10 from by omega] at hcv
      have hcc : ¬ 9223372036854775807 < 1 + t.length := by omega
      have HE2 : Hid (decDigits n = decDigits (j / 10) ++ (UInt8.ofNat (48 + j % 10) :: t)) := by unfold Hid; rw [HE.out, dec_big h10]; simp
      clear HE
      go_wp2
      go_roundw
      case rel => exact ⟨j / 10, UInt8.ofNat (48 + j % 10) :: t, by simp, by omega, by simp [str_cat], HE2, Lib.hid (HO.out.alloc _)⟩
      case measure => simp [intOf]; omega
end Go.Proofs.YtnmdfldgpbfbbaaGreatDoor

/- The document's Text. -/
namespace Go.Proofs.YtnmdfldgpbfbbaaGreatDoor
open Go.Shelf Go.RowKit Go.Lib Go.Sort
set_option linter.unusedVariables false

theorem rword_any (k : Int) (w : World) : Calls Tryz.prog 34 #[.int .u8 k] w fun e w' => e = .returned (.string ⟨(nameB k).toArray⟩) ∧ w = w' := by
  rcases kinds7 k with rfl | rfl | rfl | rfl | rfl | rfl | rfl | h
  all_goals first
    | (go_enter Tryz.func34, Tryz.ntmps34
       go_wp2
       go_ret
       exact ⟨rfl, rfl⟩)
    | skip
  obtain ⟨h1, h2, h3, h4, h5, h6, h7⟩ := h
  have hn : nameB k = [118, 97, 114] := by simp [nameB, h1, h2, h3, h4, h5, h6, h7]
  rw [hn]
  have e1 := beq_no h1; have e2 := beq_no h2; have e3 := beq_no h3; have e4 := beq_no h4; have e5 := beq_no h5; have e6 := beq_no h6; have e7 := beq_no h7
  clear h1 h2 h3 h4 h5 h6 h7 hn
  go_enter Tryz.func34, Tryz.ntmps34
  go_wp2
  go_ret
  exact ⟨rfl, rfl⟩
theorem rindex_any (n : Int) (h0 : -9223372036854775808 ≤ n) (h1 : n ≤ 9223372036854775807) (w : World) (hT : Tab w) :
    Calls Tryz.prog 35 #[.int .i64 n] w fun e w' => e = .returned (.string ⟨(itoa n).toArray⟩) ∧ On w w' := by
  by_cases h : n < 0
  · obtain ⟨u, rfl⟩ : ∃ u : Nat, n = -(u : Int) := ⟨n.natAbs, by omega⟩
    have hu1 : 1 ≤ u := by omega
    have hwr : IntKind.u64.wrap (-IntKind.u64.wrap (-(u : Int))) = (u : Int) := by rw [IntKind.wrap_u64, IntKind.wrap_u64]; omega
    have HD := Lib.hid (rdec_any u (by omega) w hT)
    have hdl := nDigits_le u (by omega)
    have hdl2 := decDigits_length u
    have hcc : ¬ 9223372036854775807 < 1 + (decDigits u).length := by omega
    rw [itoa_neg u hu1]
    clear hT
    go_enter Tryz.func35, Tryz.ntmps35
    go_wp2_with (go_at_call 33; refine HD.out.mono ?_; rintro e w' ⟨rfl, hO⟩)
    go_ret
    exact ⟨by simp [str_cat], hO⟩
  · obtain ⟨u, rfl⟩ : ∃ u : Nat, n = (u : Int) := ⟨n.toNat, by omega⟩
    have HD := Lib.hid (rdec_any u (by omega) w hT)
    rw [itoa_nonneg]
    clear hT
    go_enter Tryz.func35, Tryz.ntmps35
    go_wp2_with (go_at_call 33; refine HD.out.mono ?_; rintro e w' ⟨rfl, hO⟩)
    go_ret
    exact ⟨rfl, hO⟩
theorem rtext_nil (a : Option Addr) (c : Nat) (w : World) (hT : Tab w) : Calls Tryz.prog 11 #[.slice a 0 c] w fun e w' => e = .returned (.string ⟨#[48]⟩) ∧ On w w' := by
  have H0 := Lib.hid (On.refl hT)
  clear hT
  go_enter Tryz.func11, Tryz.ntmps11
  go_wp2
  go_ret
  exact ⟨rfl, H0.out⟩
set_option maxRecDepth 100000 in
set_option maxHeartbeats 4000000 in
theorem rtext_any (s : List Mo) (v : Value) (w : World) (hT : Tab w) (hR : MRd w v s) (hs : s.length ≤ 1000) (hl : ∀ m ∈ s, m.2.length ≤ 100000) :
    Calls Tryz.prog 11 #[v] w fun e w' => e = .returned (.string ⟨(txtB s).toArray⟩) ∧ On w w' := by
  obtain ⟨aa, ca, rfl⟩ := hR.shape
  rcases Nat.eq_zero_or_pos s.length with h0 | h0
  · have hs0 : s = [] := List.length_eq_zero_iff.1 h0
    subst hs0
    exact rtext_nil aa ca w hT
  have hne : s ≠ [] := fun e => by subst e; simp at h0
  have hb : txtB s = txtL s := by unfold txtB; rw [if_neg hne]
  rw [hb]
  have HC := Lib.hid hR.cells
  have HLE := Lib.hid hR.le
  have HVL : Hid (∀ k, (s.getD k zM).2.length ≤ 100000) := fun k => by
    rcases Nat.lt_or_ge k s.length with h | h
    · rw [List.getD_eq_getElem?_getD, List.getElem?_eq_getElem h]; exact hl _ (List.getElem_mem _)
    · rw [List.getD_eq_getElem?_getD, List.getElem?_eq_none h]; simp
  have HTL : Hid (∀ k, k ≤ 1000 → (txtL (s.take k)).length ≤ 4000000000) := fun k hk => by
    have := txtL_len (s := s) (fun m hm => ⟨hR.1 m hm, (by
      obtain ⟨i, hi, rfl⟩ := List.getElem_of_mem hm
      obtain ⟨_, _, _, _, _, _, _, hv⟩ := hR.cells i hi
      have := hv.1
      rw [List.getD_eq_getElem?_getD, List.getElem?_eq_getElem hi] at this
      exact this), hl m hm⟩) k
    omega
  have H0 := Lib.hid (On.refl hT)
  obtain ⟨n, hn⟩ : ∃ n, s.length = n := ⟨_, rfl⟩
  have HN := Lib.hid hn
  rw [hn] at HC hs h0 ⊢
  have hn0 : ¬ (n : Int) = 0 := by omega
  have en := beq_no hn0
  clear hT hR hl hne hb hn hn0
  go_enter Tryz.func11, Tryz.ntmps11
  go_wp2_with fail
  go_loopw [3, 4] (fun vs vi wr => ∃ k : Nat, k ≤ n ∧ vi = .int .i64 (k : Int) ∧ vs = .string ⟨(txtL (s.take k)).toArray⟩ ∧ Hid (On w wr)) (fun _ vi _ => n - (intOf vi).toNat)
  case atStart => exact ⟨0, Nat.zero_le _, rfl, by simp [txtL], H0⟩
  case round =>
    rename World => wr
    obtain ⟨k, hk, rfl, rfl, HO⟩ := hrel
    by_cases hlt : k < n
    · obtain ⟨g, o, a', c', rfl, c0, c1, c2⟩ := HC.out k hlt
      have hlt' : (k : Int) < (n : Int) := by omega
      have c0' := (HO.out.cell (p := ⟨g, o + k * 2, none⟩) (cell_size c0)).trans c0
      have hle := HLE.out k
      have hvl := HVL.out k
      have HXV := Lib.hid c2
      have HTS := Lib.hid (take_snoc_m s zM k (by rw [HN.out]; exact hlt))
      have HTK := Lib.hid (HTL.out k (by omega))
      obtain ⟨x, hx⟩ : ∃ x, x = s.getD k zM := ⟨_, rfl⟩
      rw [← hx] at c0' c1 hle hvl HXV HTS
      have HT2 : Hid (txtL (s.take (k + 1)) = (if txtL (s.take k) = [] then [] else txtL (s.take k) ++ sepB) ++ txtM x) := by unfold Hid; rw [HTS.out, txtL_snoc]
      clear c0 c2 hx HTS
      obtain ⟨xc, xv⟩ := x
      simp only at c0' c1 hle hvl HXV
      obtain ⟨xl, hxl⟩ : ∃ xl, xv.length = xl := ⟨_, rfl⟩
      have HXL := Lib.hid hxl
      rw [hxl] at c1 hvl HXV
      clear hxl
      rcases Nat.eq_zero_or_pos k with hk0 | hk0
      · subst hk0
        obtain ⟨T1, hT1⟩ : ∃ T1 : List UInt8, T1 = [] := ⟨_, rfl⟩
        have HT2 : Hid (txtL (s.take (0 + 1)) = T1 ++ txtM (xc, xv)) := by unfold Hid; rw [hT1, HT2.out, if_pos (by simp [txtL])]
        have hTL : T1.length ≤ 4000000100 := by rw [hT1]; simp
        rw [show txtL (s.take 0) = T1 from hT1.symm]
        rw [Nat.zero_mul, Nat.add_zero] at c0' c1
        clear hT1 HTK
        have HF := Lib.hid (rdec_any xc (by omega) wr HO.out.tab)
        have hdl := nDigits_le xc (by omega)
        have hdl2 := decDigits_length xc
        have hxv := txtV_len HXV.out.1
        have hxll := HXL.out
        have hcc1 : ¬ 9223372036854775807 < T1.length + (decDigits xc).length := by omega
        go_wp2_with (go_at_call 33; refine HF.out.mono ?_; rintro e w4 ⟨rfl, hO4⟩; refine Hid.out ?_)
        refine Lib.hid ?_
        have HO4 := Lib.hid (HO.out.trans hO4)
        clear hO4 HF c0'
        go_wp2_with fail
        go_loopw [3, 5] (fun vs vj wq => ∃ j : Nat, j ≤ xl ∧ vj = .int .i64 (j : Int) ∧ vs = .string ⟨(T1 ++ decDigits xc ++ txtV (xv.take j)).toArray⟩ ∧ Hid (On w wq)) (fun _ vj _ => xl - (intOf vj).toNat)
        case atStart => exact ⟨0, Nat.zero_le _, rfl, by simp [str_cat, txtV], HO4⟩
        case round =>
          rename World => wq0
          obtain ⟨j, hj, rfl, rfl, HOJ⟩ := hrel
          have c1q := (HOJ.out.cell (p := ⟨g, o + 1, none⟩) (cell_size c1)).trans c1
          by_cases hjt : j < xl
          · obtain ⟨g2, o2, rfl, d0, d1⟩ := (HXV.out.on HOJ.out).cells j (by rw [HXL.out]; exact hjt)
            have hjt' : (j : Int) < (xl : Int) := by omega
            have hok := HXV.out.ok j
            have HSN := Lib.hid (take_snoc_m xv zV j (by rw [HXL.out]; exact hjt))
            have hVT := txtV_len (l := xv.take j) (fun v hv => HXV.out.1 v (List.mem_of_mem_take hv))
            rw [take_len xv j (by rw [HXL.out]; omega)] at hVT
            obtain ⟨y, hy⟩ : ∃ y, y = xv.getD j zV := ⟨_, rfl⟩
            rw [← hy] at d0 d1 hok HSN
            clear hy
            obtain ⟨yk, yi⟩ := y
            simp only at d0 d1
            have HOK := Lib.hid hok
            have hil := itoa_len21 yi hok.2.2.1 hok.2.2.2
            have hnl := name_len yk
            clear hok
            obtain ⟨T, hT⟩ : ∃ T, T = T1 ++ decDigits xc ++ txtV (xv.take j) := ⟨_, rfl⟩
            have hTl : T.length ≤ 8000000100 := by rw [hT, List.length_append, List.length_append]; omega
            have HSX : Hid (T1 ++ decDigits xc ++ txtV (xv.take (j + 1)) = T ++ [42] ++ nameB yk ++ itoa yi) := by unfold Hid; rw [HSN.out, txtV_snoc, hT]; simp
            rw [← hT]
            clear hT hVT HSN
            have HNM := Lib.hid (fun (wx : World) (h : On wq0 wx) => (rword_any yk wx).mono fun e w' ⟨he, ho⟩ => (⟨he, by rw [← ho]; exact h⟩ : _ ∧ On wq0 w'))
            have HIT := Lib.hid (fun (wx : World) (h : On wq0 wx) => (rindex_any yi HOK.out.2.2.1 HOK.out.2.2.2 wx h.tab).mono fun e w' ⟨he, ho⟩ => (⟨he, h.trans ho⟩ : _ ∧ On wq0 w'))
            go_wp2
            refine region_keep_tail (fun wx => On wq0 wx) 24 (by kernel_rfl) (by kernel_rfl) (On.refl HOJ.out.tab).drew ?_
            simp only [List.take_succ_cons, List.take_zero, List.drop_succ_cons, List.drop_zero]
            refine quiet_start fun L9 hL9 => ?_
            refine quiet_take (v := ?krv0) hL9 (by kernel_rfl) (fun wq hwq => ?kry0) (fun L9 hL9 => ?krr0)
            case kry0 => (go_simp; try with_reducible rfl)
            try simp only [Act.put, List.setIfInBounds_toArray, List.set_cons_zero, List.set_cons_succ]
            refine quiet_take (v := ?krv1) hL9 (by kernel_rfl) (fun wq hwq => ?kry1) (fun L9 hL9 => ?krr1)
            case kry1 => (have k0 := (hwq.cell (p := ⟨g, o + 1, none⟩) (cell_size c1q)).trans c1q; have k1 := (hwq.cell (p := ⟨g2, o2 + j * 2, none⟩) (cell_size d0)).trans d0; have k2 := (hwq.cell (p := ⟨g2, o2 + j * 2 + 1, none⟩) (cell_size d1)).trans d1; have hc1 : ¬ 9223372036854775807 < T.length + 1 := (by omega); have hc2 : ¬ 9223372036854775807 < T.length + 1 + (nameB yk).length := (by omega); have hc3 : ¬ 9223372036854775807 < T.length + 1 + (nameB yk).length + (itoa yi).length := (by omega); go_simp; try with_reducible rfl)
            try simp only [Act.put, List.setIfInBounds_toArray, List.set_cons_zero, List.set_cons_succ]
            refine quiet_take (v := ?krv2) hL9 (by kernel_rfl) (fun wq hwq => ?kry2) (fun L9 hL9 => ?krr2)
            case kry2 => (go_simp; try with_reducible rfl)
            try simp only [Act.put, List.setIfInBounds_toArray, List.set_cons_zero, List.set_cons_succ]
            refine quiet_take (v := ?krv3) hL9 (by kernel_rfl) (fun wq hwq => ?kry3) (fun L9 hL9 => ?krr3)
            case kry3 => (go_simp; try with_reducible rfl)
            try simp only [Act.put, List.setIfInBounds_toArray, List.set_cons_zero, List.set_cons_succ]
            refine quiet_take (v := ?krv4) hL9 (by kernel_rfl) (fun wq hwq => ?kry4) (fun L9 hL9 => ?krr4)
            case kry4 => (go_simp; try with_reducible rfl)
            try simp only [Act.put, List.setIfInBounds_toArray, List.set_cons_zero, List.set_cons_succ]
            refine quiet_take (v := ?krv5) hL9 (by kernel_rfl) (fun wq hwq => ?kry5) (fun L9 hL9 => ?krr5)
            case kry5 => (go_simp; try with_reducible rfl)
            try simp only [Act.put, List.setIfInBounds_toArray, List.set_cons_zero, List.set_cons_succ]
            refine quiet_take (v := ?krv6) hL9 (by kernel_rfl) (fun wq hwq => ?kry6) (fun L9 hL9 => ?krr6)
            case kry6 => (have k0 := (hwq.cell (p := ⟨g, o + 1, none⟩) (cell_size c1q)).trans c1q; have k1 := (hwq.cell (p := ⟨g2, o2 + j * 2, none⟩) (cell_size d0)).trans d0; have k2 := (hwq.cell (p := ⟨g2, o2 + j * 2 + 1, none⟩) (cell_size d1)).trans d1; have hc1 : ¬ 9223372036854775807 < T.length + 1 := (by omega); have hc2 : ¬ 9223372036854775807 < T.length + 1 + (nameB yk).length := (by omega); have hc3 : ¬ 9223372036854775807 < T.length + 1 + (nameB yk).length + (itoa yi).length := (by omega); go_simp; try with_reducible rfl)
            try simp only [Act.put, List.setIfInBounds_toArray, List.set_cons_zero, List.set_cons_succ]
            refine quiet_take (v := ?krv7) hL9 (by kernel_rfl) (fun wq hwq => ?kry7) (fun L9 hL9 => ?krr7)
            case kry7 => (go_simp; try with_reducible rfl)
            try simp only [Act.put, List.setIfInBounds_toArray, List.set_cons_zero, List.set_cons_succ]
            refine quiet_take (v := ?krv8) hL9 (by kernel_rfl) (fun wq hwq => ?kry8) (fun L9 hL9 => ?krr8)
            case kry8 => (go_simp; try with_reducible rfl)
            try simp only [Act.put, List.setIfInBounds_toArray, List.set_cons_zero, List.set_cons_succ]
            refine quiet_take (v := ?krv9) hL9 (by kernel_rfl) (fun wq hwq => ?kry9) (fun L9 hL9 => ?krr9)
            case kry9 => (go_simp; try with_reducible rfl)
            try simp only [Act.put, List.setIfInBounds_toArray, List.set_cons_zero, List.set_cons_succ]
            refine quiet_take (v := ?krv10) hL9 (by kernel_rfl) (fun wq hwq => ?kry10) (fun L9 hL9 => ?krr10)
            case kry10 => (have k0 := (hwq.cell (p := ⟨g, o + 1, none⟩) (cell_size c1q)).trans c1q; have k1 := (hwq.cell (p := ⟨g2, o2 + j * 2, none⟩) (cell_size d0)).trans d0; have k2 := (hwq.cell (p := ⟨g2, o2 + j * 2 + 1, none⟩) (cell_size d1)).trans d1; have hc1 : ¬ 9223372036854775807 < T.length + 1 := (by omega); have hc2 : ¬ 9223372036854775807 < T.length + 1 + (nameB yk).length := (by omega); have hc3 : ¬ 9223372036854775807 < T.length + 1 + (nameB yk).length + (itoa yi).length := (by omega); go_simp; try with_reducible rfl)
            try simp only [Act.put, List.setIfInBounds_toArray, List.set_cons_zero, List.set_cons_succ]
            refine quiet_take (v := .string ⟨(nameB yk).toArray⟩) hL9 (by kernel_rfl) (fun wq hwq => ?kry11) (fun L9 hL9 => ?krr11)
            case kry11 => (go_simp; go_at_call 34; exact HNM.out _ hwq)
            try simp only [Act.put, List.setIfInBounds_toArray, List.set_cons_zero, List.set_cons_succ]
            refine quiet_take (v := ?krv12) hL9 (by kernel_rfl) (fun wq hwq => ?kry12) (fun L9 hL9 => ?krr12)
            case kry12 => (have k0 := (hwq.cell (p := ⟨g, o + 1, none⟩) (cell_size c1q)).trans c1q; have k1 := (hwq.cell (p := ⟨g2, o2 + j * 2, none⟩) (cell_size d0)).trans d0; have k2 := (hwq.cell (p := ⟨g2, o2 + j * 2 + 1, none⟩) (cell_size d1)).trans d1; have hc1 : ¬ 9223372036854775807 < T.length + 1 := (by omega); have hc2 : ¬ 9223372036854775807 < T.length + 1 + (nameB yk).length := (by omega); have hc3 : ¬ 9223372036854775807 < T.length + 1 + (nameB yk).length + (itoa yi).length := (by omega); go_simp; try with_reducible rfl)
            try simp only [Act.put, List.setIfInBounds_toArray, List.set_cons_zero, List.set_cons_succ]
            refine quiet_take (v := ?krv13) hL9 (by kernel_rfl) (fun wq hwq => ?kry13) (fun L9 hL9 => ?krr13)
            case kry13 => (go_simp; try with_reducible rfl)
            try simp only [Act.put, List.setIfInBounds_toArray, List.set_cons_zero, List.set_cons_succ]
            refine quiet_take (v := ?krv14) hL9 (by kernel_rfl) (fun wq hwq => ?kry14) (fun L9 hL9 => ?krr14)
            case kry14 => (go_simp; try with_reducible rfl)
            try simp only [Act.put, List.setIfInBounds_toArray, List.set_cons_zero, List.set_cons_succ]
            refine quiet_take (v := ?krv15) hL9 (by kernel_rfl) (fun wq hwq => ?kry15) (fun L9 hL9 => ?krr15)
            case kry15 => (go_simp; try with_reducible rfl)
            try simp only [Act.put, List.setIfInBounds_toArray, List.set_cons_zero, List.set_cons_succ]
            refine quiet_take (v := ?krv16) hL9 (by kernel_rfl) (fun wq hwq => ?kry16) (fun L9 hL9 => ?krr16)
            case kry16 => (go_simp; try with_reducible rfl)
            try simp only [Act.put, List.setIfInBounds_toArray, List.set_cons_zero, List.set_cons_succ]
            refine quiet_take (v := ?krv17) hL9 (by kernel_rfl) (fun wq hwq => ?kry17) (fun L9 hL9 => ?krr17)
            case kry17 => (have k0 := (hwq.cell (p := ⟨g, o + 1, none⟩) (cell_size c1q)).trans c1q; have k1 := (hwq.cell (p := ⟨g2, o2 + j * 2, none⟩) (cell_size d0)).trans d0; have k2 := (hwq.cell (p := ⟨g2, o2 + j * 2 + 1, none⟩) (cell_size d1)).trans d1; have hc1 : ¬ 9223372036854775807 < T.length + 1 := (by omega); have hc2 : ¬ 9223372036854775807 < T.length + 1 + (nameB yk).length := (by omega); have hc3 : ¬ 9223372036854775807 < T.length + 1 + (nameB yk).length + (itoa yi).length := (by omega); go_simp; try with_reducible rfl)
            try simp only [Act.put, List.setIfInBounds_toArray, List.set_cons_zero, List.set_cons_succ]
            refine quiet_take (v := ?krv18) hL9 (by kernel_rfl) (fun wq hwq => ?kry18) (fun L9 hL9 => ?krr18)
            case kry18 => (go_simp; try with_reducible rfl)
            try simp only [Act.put, List.setIfInBounds_toArray, List.set_cons_zero, List.set_cons_succ]
            refine quiet_take (v := ?krv19) hL9 (by kernel_rfl) (fun wq hwq => ?kry19) (fun L9 hL9 => ?krr19)
            case kry19 => (go_simp; try with_reducible rfl)
            try simp only [Act.put, List.setIfInBounds_toArray, List.set_cons_zero, List.set_cons_succ]
            refine quiet_take (v := ?krv20) hL9 (by kernel_rfl) (fun wq hwq => ?kry20) (fun L9 hL9 => ?krr20)
            case kry20 => (go_simp; try with_reducible rfl)
            try simp only [Act.put, List.setIfInBounds_toArray, List.set_cons_zero, List.set_cons_succ]
            refine quiet_take (v := ?krv21) hL9 (by kernel_rfl) (fun wq hwq => ?kry21) (fun L9 hL9 => ?krr21)
            case kry21 => (have k0 := (hwq.cell (p := ⟨g, o + 1, none⟩) (cell_size c1q)).trans c1q; have k1 := (hwq.cell (p := ⟨g2, o2 + j * 2, none⟩) (cell_size d0)).trans d0; have k2 := (hwq.cell (p := ⟨g2, o2 + j * 2 + 1, none⟩) (cell_size d1)).trans d1; have hc1 : ¬ 9223372036854775807 < T.length + 1 := (by omega); have hc2 : ¬ 9223372036854775807 < T.length + 1 + (nameB yk).length := (by omega); have hc3 : ¬ 9223372036854775807 < T.length + 1 + (nameB yk).length + (itoa yi).length := (by omega); go_simp; try with_reducible rfl)
            try simp only [Act.put, List.setIfInBounds_toArray, List.set_cons_zero, List.set_cons_succ]
            refine quiet_take (v := .string ⟨(itoa yi).toArray⟩) hL9 (by kernel_rfl) (fun wq hwq => ?kry22) (fun L9 hL9 => ?krr22)
            case kry22 => (go_simp; go_at_call 35; exact HIT.out _ hwq)
            try simp only [Act.put, List.setIfInBounds_toArray, List.set_cons_zero, List.set_cons_succ]
            refine quiet_take (v := ?krv23) hL9 (by kernel_rfl) (fun wq hwq => ?kry23) (fun L9 hL9 => ?krr23)
            case kry23 => (have k0 := (hwq.cell (p := ⟨g, o + 1, none⟩) (cell_size c1q)).trans c1q; have k1 := (hwq.cell (p := ⟨g2, o2 + j * 2, none⟩) (cell_size d0)).trans d0; have k2 := (hwq.cell (p := ⟨g2, o2 + j * 2 + 1, none⟩) (cell_size d1)).trans d1; have hc1 : ¬ 9223372036854775807 < T.length + 1 := (by omega); have hc2 : ¬ 9223372036854775807 < T.length + 1 + (nameB yk).length := (by omega); have hc3 : ¬ 9223372036854775807 < T.length + 1 + (nameB yk).length + (itoa yi).length := (by omega); go_simp; try with_reducible rfl)
            try simp only [Act.put, List.setIfInBounds_toArray, List.set_cons_zero, List.set_cons_succ]
            refine quiet_nil hL9 ?_
            clear hL9
            intro w6 hX6
            have HO6 := Lib.hid (HOJ.out.trans hX6)
            clear hX6 HNM HIT
            go_wp2
            go_roundw
            case rel => exact ⟨j + 1, by omega, by simp, by rw [HSX.out]; simp [str_cat], HO6⟩
            case measure => simp [intOf]; omega
          · obtain rfl : j = xl := by omega
            have HT8 : Hid (T1 ++ decDigits xc ++ txtV (xv.take j) = txtL (s.take (0 + 1))) := by
              unfold Hid
              rw [HT2.out, ← HXL.out, List.take_length, List.append_assoc]
              rfl
            rw [HT8.out]
            go_wp2
            go_roundw
            case rel => exact ⟨0 + 1, by omega, by simp, rfl, HOJ⟩
            case measure => simp [intOf]; omega
      · obtain ⟨T1, hT1⟩ : ∃ T1 : List UInt8, T1 = txtL (s.take k) ++ sepB := ⟨_, rfl⟩
        have hkn : txtL (s.take k) ≠ [] := txtL_ne _ (fun e => by have := congrArg List.length e; rw [List.length_take, List.length_nil, HN.out] at this; omega)
        have HT2 : Hid (txtL (s.take (k + 1)) = T1 ++ txtM (xc, xv)) := by unfold Hid; rw [hT1, HT2.out, if_neg hkn]
        have hTL : T1.length ≤ 4000000100 := by rw [hT1, List.length_append]; have := HTK.out; simp [sepB]; omega
        have hTK := HTK.out
        have HCAT : Hid (({ data := (txtL (s.take k)).toArray } : ByteArray) ++ { data := #[32, 43, 32] } = ⟨T1.toArray⟩) := by unfold Hid; rw [hT1]; exact str_cat _ sepB
        have hk1 : (0 : Int) < (k : Int) := by omega
        have hcc0 : ¬ 9223372036854775807 < (txtL (s.take k)).length + 3 := by omega
        clear hkn hT1 HTK
        go_upto_region 9 with fail
        rw [HCAT.out]
        clear HCAT hcc0 hTK
        have HF := Lib.hid (rdec_any xc (by omega) wr HO.out.tab)
        have hdl := nDigits_le xc (by omega)
        have hdl2 := decDigits_length xc
        have hxv := txtV_len HXV.out.1
        have hxll := HXL.out
        have hcc1 : ¬ 9223372036854775807 < T1.length + (decDigits xc).length := by omega
        go_wp2_with (go_at_call 33; refine HF.out.mono ?_; rintro e w4 ⟨rfl, hO4⟩; refine Hid.out ?_)
        refine Lib.hid ?_
        have HO4 := Lib.hid (HO.out.trans hO4)
        clear hO4 HF c0'
        go_wp2_with fail
        go_loopw [3, 5] (fun vs vj wq => ∃ j : Nat, j ≤ xl ∧ vj = .int .i64 (j : Int) ∧ vs = .string ⟨(T1 ++ decDigits xc ++ txtV (xv.take j)).toArray⟩ ∧ Hid (On w wq)) (fun _ vj _ => xl - (intOf vj).toNat)
        case atStart => exact ⟨0, Nat.zero_le _, rfl, by simp [str_cat, txtV], HO4⟩
        case round =>
          rename World => wq0
          obtain ⟨j, hj, rfl, rfl, HOJ⟩ := hrel
          have c1q := (HOJ.out.cell (p := ⟨g, o + k * 2 + 1, none⟩) (cell_size c1)).trans c1
          by_cases hjt : j < xl
          · obtain ⟨g2, o2, rfl, d0, d1⟩ := (HXV.out.on HOJ.out).cells j (by rw [HXL.out]; exact hjt)
            have hjt' : (j : Int) < (xl : Int) := by omega
            have hok := HXV.out.ok j
            have HSN := Lib.hid (take_snoc_m xv zV j (by rw [HXL.out]; exact hjt))
            have hVT := txtV_len (l := xv.take j) (fun v hv => HXV.out.1 v (List.mem_of_mem_take hv))
            rw [take_len xv j (by rw [HXL.out]; omega)] at hVT
            obtain ⟨y, hy⟩ : ∃ y, y = xv.getD j zV := ⟨_, rfl⟩
            rw [← hy] at d0 d1 hok HSN
            clear hy
            obtain ⟨yk, yi⟩ := y
            simp only at d0 d1
            have HOK := Lib.hid hok
            have hil := itoa_len21 yi hok.2.2.1 hok.2.2.2
            have hnl := name_len yk
            clear hok
            obtain ⟨T, hT⟩ : ∃ T, T = T1 ++ decDigits xc ++ txtV (xv.take j) := ⟨_, rfl⟩
            have hTl : T.length ≤ 8000000100 := by rw [hT, List.length_append, List.length_append]; omega
            have HSX : Hid (T1 ++ decDigits xc ++ txtV (xv.take (j + 1)) = T ++ [42] ++ nameB yk ++ itoa yi) := by unfold Hid; rw [HSN.out, txtV_snoc, hT]; simp
            rw [← hT]
            clear hT hVT HSN
            have HNM := Lib.hid (fun (wx : World) (h : On wq0 wx) => (rword_any yk wx).mono fun e w' ⟨he, ho⟩ => (⟨he, by rw [← ho]; exact h⟩ : _ ∧ On wq0 w'))
            have HIT := Lib.hid (fun (wx : World) (h : On wq0 wx) => (rindex_any yi HOK.out.2.2.1 HOK.out.2.2.2 wx h.tab).mono fun e w' ⟨he, ho⟩ => (⟨he, h.trans ho⟩ : _ ∧ On wq0 w'))
            go_wp2
            refine region_keep_tail (fun wx => On wq0 wx) 24 (by kernel_rfl) (by kernel_rfl) (On.refl HOJ.out.tab).drew ?_
            simp only [List.take_succ_cons, List.take_zero, List.drop_succ_cons, List.drop_zero]
            refine quiet_start fun L9 hL9 => ?_
            refine quiet_take (v := ?ksv0) hL9 (by kernel_rfl) (fun wq hwq => ?ksy0) (fun L9 hL9 => ?ksr0)
            case ksy0 => (go_simp; try with_reducible rfl)
            try simp only [Act.put, List.setIfInBounds_toArray, List.set_cons_zero, List.set_cons_succ]
            refine quiet_take (v := ?ksv1) hL9 (by kernel_rfl) (fun wq hwq => ?ksy1) (fun L9 hL9 => ?ksr1)
            case ksy1 => (have k0 := (hwq.cell (p := ⟨g, o + k * 2 + 1, none⟩) (cell_size c1q)).trans c1q; have k1 := (hwq.cell (p := ⟨g2, o2 + j * 2, none⟩) (cell_size d0)).trans d0; have k2 := (hwq.cell (p := ⟨g2, o2 + j * 2 + 1, none⟩) (cell_size d1)).trans d1; have hc1 : ¬ 9223372036854775807 < T.length + 1 := (by omega); have hc2 : ¬ 9223372036854775807 < T.length + 1 + (nameB yk).length := (by omega); have hc3 : ¬ 9223372036854775807 < T.length + 1 + (nameB yk).length + (itoa yi).length := (by omega); go_simp; try with_reducible rfl)
            try simp only [Act.put, List.setIfInBounds_toArray, List.set_cons_zero, List.set_cons_succ]
            refine quiet_take (v := ?ksv2) hL9 (by kernel_rfl) (fun wq hwq => ?ksy2) (fun L9 hL9 => ?ksr2)
            case ksy2 => (go_simp; try with_reducible rfl)
            try simp only [Act.put, List.setIfInBounds_toArray, List.set_cons_zero, List.set_cons_succ]
            refine quiet_take (v := ?ksv3) hL9 (by kernel_rfl) (fun wq hwq => ?ksy3) (fun L9 hL9 => ?ksr3)
            case ksy3 => (go_simp; try with_reducible rfl)
            try simp only [Act.put, List.setIfInBounds_toArray, List.set_cons_zero, List.set_cons_succ]
            refine quiet_take (v := ?ksv4) hL9 (by kernel_rfl) (fun wq hwq => ?ksy4) (fun L9 hL9 => ?ksr4)
            case ksy4 => (go_simp; try with_reducible rfl)
            try simp only [Act.put, List.setIfInBounds_toArray, List.set_cons_zero, List.set_cons_succ]
            refine quiet_take (v := ?ksv5) hL9 (by kernel_rfl) (fun wq hwq => ?ksy5) (fun L9 hL9 => ?ksr5)
            case ksy5 => (go_simp; try with_reducible rfl)
            try simp only [Act.put, List.setIfInBounds_toArray, List.set_cons_zero, List.set_cons_succ]
            refine quiet_take (v := ?ksv6) hL9 (by kernel_rfl) (fun wq hwq => ?ksy6) (fun L9 hL9 => ?ksr6)
            case ksy6 => (have k0 := (hwq.cell (p := ⟨g, o + k * 2 + 1, none⟩) (cell_size c1q)).trans c1q; have k1 := (hwq.cell (p := ⟨g2, o2 + j * 2, none⟩) (cell_size d0)).trans d0; have k2 := (hwq.cell (p := ⟨g2, o2 + j * 2 + 1, none⟩) (cell_size d1)).trans d1; have hc1 : ¬ 9223372036854775807 < T.length + 1 := (by omega); have hc2 : ¬ 9223372036854775807 < T.length + 1 + (nameB yk).length := (by omega); have hc3 : ¬ 9223372036854775807 < T.length + 1 + (nameB yk).length + (itoa yi).length := (by omega); go_simp; try with_reducible rfl)
            try simp only [Act.put, List.setIfInBounds_toArray, List.set_cons_zero, List.set_cons_succ]
            refine quiet_take (v := ?ksv7) hL9 (by kernel_rfl) (fun wq hwq => ?ksy7) (fun L9 hL9 => ?ksr7)
            case ksy7 => (go_simp; try with_reducible rfl)
            try simp only [Act.put, List.setIfInBounds_toArray, List.set_cons_zero, List.set_cons_succ]
            refine quiet_take (v := ?ksv8) hL9 (by kernel_rfl) (fun wq hwq => ?ksy8) (fun L9 hL9 => ?ksr8)
            case ksy8 => (go_simp; try with_reducible rfl)
            try simp only [Act.put, List.setIfInBounds_toArray, List.set_cons_zero, List.set_cons_succ]
            refine quiet_take (v := ?ksv9) hL9 (by kernel_rfl) (fun wq hwq => ?ksy9) (fun L9 hL9 => ?ksr9)
            case ksy9 => (go_simp; try with_reducible rfl)
            try simp only [Act.put, List.setIfInBounds_toArray, List.set_cons_zero, List.set_cons_succ]
            refine quiet_take (v := ?ksv10) hL9 (by kernel_rfl) (fun wq hwq => ?ksy10) (fun L9 hL9 => ?ksr10)
            case ksy10 => (have k0 := (hwq.cell (p := ⟨g, o + k * 2 + 1, none⟩) (cell_size c1q)).trans c1q; have k1 := (hwq.cell (p := ⟨g2, o2 + j * 2, none⟩) (cell_size d0)).trans d0; have k2 := (hwq.cell (p := ⟨g2, o2 + j * 2 + 1, none⟩) (cell_size d1)).trans d1; have hc1 : ¬ 9223372036854775807 < T.length + 1 := (by omega); have hc2 : ¬ 9223372036854775807 < T.length + 1 + (nameB yk).length := (by omega); have hc3 : ¬ 9223372036854775807 < T.length + 1 + (nameB yk).length + (itoa yi).length := (by omega); go_simp; try with_reducible rfl)
            try simp only [Act.put, List.setIfInBounds_toArray, List.set_cons_zero, List.set_cons_succ]
            refine quiet_take (v := .string ⟨(nameB yk).toArray⟩) hL9 (by kernel_rfl) (fun wq hwq => ?ksy11) (fun L9 hL9 => ?ksr11)
            case ksy11 => (go_simp; go_at_call 34; exact HNM.out _ hwq)
            try simp only [Act.put, List.setIfInBounds_toArray, List.set_cons_zero, List.set_cons_succ]
            refine quiet_take (v := ?ksv12) hL9 (by kernel_rfl) (fun wq hwq => ?ksy12) (fun L9 hL9 => ?ksr12)
            case ksy12 => (have k0 := (hwq.cell (p := ⟨g, o + k * 2 + 1, none⟩) (cell_size c1q)).trans c1q; have k1 := (hwq.cell (p := ⟨g2, o2 + j * 2, none⟩) (cell_size d0)).trans d0; have k2 := (hwq.cell (p := ⟨g2, o2 + j * 2 + 1, none⟩) (cell_size d1)).trans d1; have hc1 : ¬ 9223372036854775807 < T.length + 1 := (by omega); have hc2 : ¬ 9223372036854775807 < T.length + 1 + (nameB yk).length := (by omega); have hc3 : ¬ 9223372036854775807 < T.length + 1 + (nameB yk).length + (itoa yi).length := (by omega); go_simp; try with_reducible rfl)
            try simp only [Act.put, List.setIfInBounds_toArray, List.set_cons_zero, List.set_cons_succ]
            refine quiet_take (v := ?ksv13) hL9 (by kernel_rfl) (fun wq hwq => ?ksy13) (fun L9 hL9 => ?ksr13)
            case ksy13 => (go_simp; try with_reducible rfl)
            try simp only [Act.put, List.setIfInBounds_toArray, List.set_cons_zero, List.set_cons_succ]
            refine quiet_take (v := ?ksv14) hL9 (by kernel_rfl) (fun wq hwq => ?ksy14) (fun L9 hL9 => ?ksr14)
            case ksy14 => (go_simp; try with_reducible rfl)
            try simp only [Act.put, List.setIfInBounds_toArray, List.set_cons_zero, List.set_cons_succ]
            refine quiet_take (v := ?ksv15) hL9 (by kernel_rfl) (fun wq hwq => ?ksy15) (fun L9 hL9 => ?ksr15)
            case ksy15 => (go_simp; try with_reducible rfl)
            try simp only [Act.put, List.setIfInBounds_toArray, List.set_cons_zero, List.set_cons_succ]
            refine quiet_take (v := ?ksv16) hL9 (by kernel_rfl) (fun wq hwq => ?ksy16) (fun L9 hL9 => ?ksr16)
            case ksy16 => (go_simp; try with_reducible rfl)
            try simp only [Act.put, List.setIfInBounds_toArray, List.set_cons_zero, List.set_cons_succ]
            refine quiet_take (v := ?ksv17) hL9 (by kernel_rfl) (fun wq hwq => ?ksy17) (fun L9 hL9 => ?ksr17)
            case ksy17 => (have k0 := (hwq.cell (p := ⟨g, o + k * 2 + 1, none⟩) (cell_size c1q)).trans c1q; have k1 := (hwq.cell (p := ⟨g2, o2 + j * 2, none⟩) (cell_size d0)).trans d0; have k2 := (hwq.cell (p := ⟨g2, o2 + j * 2 + 1, none⟩) (cell_size d1)).trans d1; have hc1 : ¬ 9223372036854775807 < T.length + 1 := (by omega); have hc2 : ¬ 9223372036854775807 < T.length + 1 + (nameB yk).length := (by omega); have hc3 : ¬ 9223372036854775807 < T.length + 1 + (nameB yk).length + (itoa yi).length := (by omega); go_simp; try with_reducible rfl)
            try simp only [Act.put, List.setIfInBounds_toArray, List.set_cons_zero, List.set_cons_succ]
            refine quiet_take (v := ?ksv18) hL9 (by kernel_rfl) (fun wq hwq => ?ksy18) (fun L9 hL9 => ?ksr18)
            case ksy18 => (go_simp; try with_reducible rfl)
            try simp only [Act.put, List.setIfInBounds_toArray, List.set_cons_zero, List.set_cons_succ]
            refine quiet_take (v := ?ksv19) hL9 (by kernel_rfl) (fun wq hwq => ?ksy19) (fun L9 hL9 => ?ksr19)
            case ksy19 => (go_simp; try with_reducible rfl)
            try simp only [Act.put, List.setIfInBounds_toArray, List.set_cons_zero, List.set_cons_succ]
            refine quiet_take (v := ?ksv20) hL9 (by kernel_rfl) (fun wq hwq => ?ksy20) (fun L9 hL9 => ?ksr20)
            case ksy20 => (go_simp; try with_reducible rfl)
            try simp only [Act.put, List.setIfInBounds_toArray, List.set_cons_zero, List.set_cons_succ]
            refine quiet_take (v := ?ksv21) hL9 (by kernel_rfl) (fun wq hwq => ?ksy21) (fun L9 hL9 => ?ksr21)
            case ksy21 => (have k0 := (hwq.cell (p := ⟨g, o + k * 2 + 1, none⟩) (cell_size c1q)).trans c1q; have k1 := (hwq.cell (p := ⟨g2, o2 + j * 2, none⟩) (cell_size d0)).trans d0; have k2 := (hwq.cell (p := ⟨g2, o2 + j * 2 + 1, none⟩) (cell_size d1)).trans d1; have hc1 : ¬ 9223372036854775807 < T.length + 1 := (by omega); have hc2 : ¬ 9223372036854775807 < T.length + 1 + (nameB yk).length := (by omega); have hc3 : ¬ 9223372036854775807 < T.length + 1 + (nameB yk).length + (itoa yi).length := (by omega); go_simp; try with_reducible rfl)
            try simp only [Act.put, List.setIfInBounds_toArray, List.set_cons_zero, List.set_cons_succ]
            refine quiet_take (v := .string ⟨(itoa yi).toArray⟩) hL9 (by kernel_rfl) (fun wq hwq => ?ksy22) (fun L9 hL9 => ?ksr22)
            case ksy22 => (go_simp; go_at_call 35; exact HIT.out _ hwq)
            try simp only [Act.put, List.setIfInBounds_toArray, List.set_cons_zero, List.set_cons_succ]
            refine quiet_take (v := ?ksv23) hL9 (by kernel_rfl) (fun wq hwq => ?ksy23) (fun L9 hL9 => ?ksr23)
            case ksy23 => (have k0 := (hwq.cell (p := ⟨g, o + k * 2 + 1, none⟩) (cell_size c1q)).trans c1q; have k1 := (hwq.cell (p := ⟨g2, o2 + j * 2, none⟩) (cell_size d0)).trans d0; have k2 := (hwq.cell (p := ⟨g2, o2 + j * 2 + 1, none⟩) (cell_size d1)).trans d1; have hc1 : ¬ 9223372036854775807 < T.length + 1 := (by omega); have hc2 : ¬ 9223372036854775807 < T.length + 1 + (nameB yk).length := (by omega); have hc3 : ¬ 9223372036854775807 < T.length + 1 + (nameB yk).length + (itoa yi).length := (by omega); go_simp; try with_reducible rfl)
            try simp only [Act.put, List.setIfInBounds_toArray, List.set_cons_zero, List.set_cons_succ]
            refine quiet_nil hL9 ?_
            clear hL9
            intro w6 hX6
            have HO6 := Lib.hid (HOJ.out.trans hX6)
            clear hX6 HNM HIT
            go_wp2
            go_roundw
            case rel => exact ⟨j + 1, by omega, by simp, by rw [HSX.out]; simp [str_cat], HO6⟩
            case measure => simp [intOf]; omega
          · obtain rfl : j = xl := by omega
            have HT8 : Hid (T1 ++ decDigits xc ++ txtV (xv.take j) = txtL (s.take (k + 1))) := by
              unfold Hid
              rw [HT2.out, ← HXL.out, List.take_length, List.append_assoc]
              rfl
            rw [HT8.out]
            go_wp2
            go_roundw
            case rel => exact ⟨k + 1, by omega, by simp, rfl, HOJ⟩
            case measure => simp [intOf]; omega
    · obtain rfl : k = n := by omega
      have HST : Hid (txtL (s.take k) = txtL s) := by unfold Hid; rw [← HN.out, List.take_length]
      rw [HST.out]
      go_wp2
      go_ret
      exact ⟨rfl, HO.out⟩
end Go.Proofs.YtnmdfldgpbfbbaaGreatDoor
