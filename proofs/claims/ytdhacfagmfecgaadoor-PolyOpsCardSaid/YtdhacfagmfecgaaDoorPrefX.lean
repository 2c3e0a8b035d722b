/- The document's own Divide of polynomials: what the call returns. -/
import Derived.Test.YtdhacfagmfecgaaDoorPrefW
namespace Go.Proofs.YtdhacfagmfecgaaDoor
open Go.RowKit
set_option linter.unusedVariables false

theorem Blk.setOther {B : Nat} {w : World} {l : List Nat} (h : Blk B w l) (p : Addr) (hne : B ≠ p.block) (u : Value) : Blk B (w.setCell p u) l := h.kept (Nat.le_of_eq (by simp)) (Below.heap_setCell _ _ _ _ hne)
def lenSl : Value → Nat
  | .slice _ n _ => n
  | _ => 0
set_option maxHeartbeats 2000000 in
theorem rdivide_any (f : Int) (l m : List Nat) (v v' : Value) (w : World) (hT : Tab w) (hv : validB f = true) (hR : Reads w v l) (hR' : Reads w v' m) (hl : l.length ≤ 1000) (hm : m.length ≤ 1000) :
    Calls Tryd.prog 24 #[.int .i64 f, v, v'] w fun e w' =>
      ((normF f m).length = 0 → e = .returned (.tuple #[.slice none 0 0, .slice none 0 0, .int .i64 2])) ∧
      (0 < (normF f m).length → ∃ Q R u u', e = .returned (.tuple #[u, u', .int .i64 0]) ∧ Ow w.heap.size w' u Q ∧ Ow w.heap.size w' u' R ∧ DivR f (normF f l) (normF f m) Q R) ∧ On w w' := by
  have hp := (valid_iff f).1 hv
  have HV := Lib.hid hv
  have hla := normF_len f l
  have hlb := normF_len f m
  have HA := Lib.hid (normF_lt f l hp)
  have HB := Lib.hid (normF_lt f m hp)
  have HNA := Lib.hid (normF_norm f l)
  have HUA := Lib.hid (normF_bd (f := f) (l := l))
  have HUB := Lib.hid (normF_bd (f := f) (l := m))
  have HLB : Hid (0 < (normF f m).length → (normF f m).getD ((normF f m).length - 1) 0 % pOf f ≠ 0) := fun h => norm_last hp h
  have HR := Lib.hid hR
  have HN2 := Lib.hid (rnorm_any f m v' w hT hR' hm)
  have HN1 := Lib.hid (fun w h (hr : Reads w v l) => rnorm_any f l v w h hr hl)
  clear hR hR' hv
  generalize normF f l = A at *
  generalize normF f m = B at *
  have hAl : A.length ≤ 1000 := by omega
  have hBl : B.length ≤ 1000 := by omega
  clear hla hlb hl hm
  go_enter Tryd.func24, Tryd.ntmps24
  go_wp2_with (go_at_call 34; refine (rvalid_any _ _).mono ?_; rintro e w' ⟨rfl, rfl⟩; rw [HV.out])
  refine HN2.out.mono ?_
  rintro e w1 ⟨⟨u1, rfl, hu1⟩, hO1⟩
  obtain ⟨a1, c1, rfl⟩ := hu1.shape
  have HO1 := Lib.hid hO1
  have HRB := Lib.hid (hu1.reads HUB.out)
  clear hO1 hu1 HN2
  by_cases h1 : B.length = 0
  · have h1' : (((B.length : Nat) : Int) == 0) = true := by simp only [beq_iff_eq]; omega
    have H1 := Lib.hid h1; clear h1
    go_wp2
    go_ret3
    exact ⟨fun _ => rfl, fun h => (Nat.ne_of_gt h H1.out).elim, HO1.out⟩
  · have h1' : (((B.length : Nat) : Int) == 0) = false := by simp only [beq_eq_false_iff_ne, ne_eq]; omega
    go_wp2_with fail
    refine (HN1.out w1 HO1.out.tab (HR.out.on HO1.out)).mono ?_
    rintro e w2 ⟨⟨u2, rfl, hu2⟩, hO2⟩
    obtain ⟨a2, c2, rfl⟩ := hu2.shape
    have HO2 := Lib.hid hO2
    have HWA := Lib.hid hu2
    clear hO2 hu2 HN1
    obtain ⟨last, hlast⟩ : ∃ last : Nat, B.length = last + 1 := ⟨B.length - 1, by omega⟩
    have hb3 : B.getD last 0 % pOf f ≠ 0 := by have := HLB.out (by omega); rwa [hlast, Nat.add_sub_cancel] at this
    have HB3 := Lib.hid hb3
    have HLAST := Lib.hid hlast
    obtain ⟨na, hna⟩ : ∃ na, A.length = na := ⟨_, rfl⟩
    have HNAL := Lib.hid hna
    have hST : RDiv f A B (List.replicate na 0) A := by rw [← hna]; exact RDiv.start hp HA.out HNA.out
    have HST := Lib.hid hST
    have HSTEP : Hid (∀ Q R t, RDiv f A B Q R → R.length = t + (last + 1) → _) := fun Q R t h ht => h.step HV.out hlast hb3 ht
    have HDONE : Hid (∀ Q R, RDiv f A B Q R → R.length < B.length → DivR f A B (normF f Q) R) := fun Q R h hl => h.done HV.out HNA.out hlast hb3 hl
    rw [hna] at HWA hAl ⊢
    rw [hlast] at HRB hBl h1' ⊢
    clear hST hb3 HLB hlast hna h1
    have hmk := make_run na (by omega) w2
    have HMK := Lib.hid (blk_made w2 na)
    obtain ⟨C, hC⟩ : ∃ C, C = w2.heap.size := ⟨_, rfl⟩
    have HC := Lib.hid hC
    have HO3 : Hid (On w1 (w2.alloc (.cells (madeCells #[.int .u64 0] na) 23))) := HO2.out.alloc _
    have HW3 : Hid (Ow w1.heap.size (w2.alloc (.cells (madeCells #[.int .u64 0] na) 23)) (.slice a2 na c2) A) := HWA.out.on ((On.refl (HO1.out.trans HO2.out).tab).alloc _)
    have HNE : Hid ((Value.slice a2 na c2).ownBlock ≠ some C) := by
      unfold Hid
      rcases HWA.out.cases with ⟨h, h2⟩ | ⟨g, cap, h2, hb, hrow⟩
      · rw [h2]; simp [Value.ownBlock]
      · have := hrow.blk.1
        rw [h2, hC]; simp [Value.ownBlock]; omega
    rw [← hC] at hmk HMK
    clear hC
    obtain ⟨w3, hw3⟩ : ∃ w3, w3 = w2.alloc (.cells (madeCells #[.int .u64 0] na) 23) := ⟨_, rfl⟩
    rw [← hw3] at hmk HMK HO3 HW3
    clear hw3
    go_wp2_with fail
    go_loopw [9] (fun vr wr => ∃ (Q R : List Nat) (n : Nat) (ar : Option Addr) (cr : Nat), n ≤ na ∧ vr = .slice ar n cr ∧ Hid (R.length = n ∧ RDiv f A B Q R) ∧ Hid (Ow w1.heap.size wr (.slice ar n cr) R ∧ (Value.slice ar n cr).ownBlock ≠ some C ∧ Blk C wr Q ∧ On w1 wr)) (fun vr _ => lenSl vr)
    case atStart => exact ⟨_, A, na, a2, c2, Nat.le_refl _, rfl, ⟨HNAL.out, HST.out⟩, HW3.out, HNE.out, HMK.out, HO3.out⟩
    case round =>
      rename World => wr
      obtain ⟨Q, R, n, ar, cr, hn, rfl, HI, HM⟩ := hrel
      by_cases hge : last + 1 ≤ n
      · obtain ⟨t, ht⟩ : ∃ t, n = t + (last + 1) := ⟨n - (last + 1), by omega⟩
        obtain ⟨gr, rfl, hgb, hrow⟩ : ∃ g, ar = some ⟨g, 0, none⟩ ∧ w1.heap.size ≤ g ∧ Row g cr wr R := by
          rcases HM.out.1.cases with ⟨e, _⟩ | ⟨g, cap, e, hb, hrow⟩
          · have := HI.out.1; rw [e] at this; simp at this; omega
          · simp only [Value.slice.injEq] at e; obtain ⟨rfl, _, rfl⟩ := e; exact ⟨g, rfl, hb, hrow⟩
        have hgC : gr ≠ C := by have := HM.out.2.1; simpa [Value.ownBlock] using this
        have HROW := Lib.hid hrow; have HGB := Lib.hid hgb; have HGC := Lib.hid hgC
        clear hrow hgb hgC
        have hsz : R.length = t + (last + 1) := by rw [HI.out.1]; exact ht
        have hqz : t < Q.length := by rw [HI.out.2.1, HNAL.out]; omega
        have HRL : Hid (∀ x ∈ R, x < pOf f) := HI.out.2.2.2.1
        have hS := HSTEP.out Q R t HI.out.2 hsz
        have hcr := HROW.out.blk.cell (t + last) (by omega)
        obtain ⟨bB, oB, rfl, HCB⟩ : ∃ bB oB, a1 = some ⟨bB, oB, none⟩ ∧ Hid (∀ W i, On w1 W → i < last + 1 → W.cell? ⟨bB, oB + i, none⟩ = some (.int .u64 ((B.getD i 0 : Nat) : Int))) := by
          obtain ⟨-, hcB⟩ := reads_opt HRB.out
          obtain ⟨bB, oB, rfl, -⟩ := hcB 0 (by rw [HLAST.out]; omega)
          refine ⟨bB, oB, rfl, fun W i hW hi => ?_⟩
          obtain ⟨-, hcB⟩ := reads_opt (HRB.out.on hW)
          obtain ⟨b', o', h1, h2⟩ := hcB i (by rw [HLAST.out]; exact hi)
          simp only [Option.some.injEq, Addr.mk.injEq, and_true] at h1
          obtain ⟨rfl, rfl⟩ := h1
          exact h2
        have hcb := HCB.out wr last HM.out.2.2.2 (by omega)
        have hxr : R.getD (t + last) 0 ≤ 18446744073709551615 := by have := getD_lt hp HRL.out (t + last); have := pOf_le f; omega
        have hxb : B.getD last 0 ≤ 18446744073709551615 := HUB.out _ (getD_mem B last (by rw [HLAST.out]; omega))
        obtain ⟨c, hc⟩ : ∃ c, c = divF f (R.getD (t + last) 0) (B.getD last 0) := ⟨_, rfl⟩
        have HDV : Hid (∀ W, Calls Tryd.prog 48 #[.int .i64 f, .int .u64 ((R.getD (t + last) 0 : Nat) : Int), .int .u64 ((B.getD last 0 : Nat) : Int)] W fun e w' => e = .returned (.int .u64 (c : Int)) ∧ Drawn W w') := fun W => by rw [hc]; exact rdiv_any f _ _ W hxr hxb
        rw [← hc] at hS
        have hcl : c ≤ 998244353 := by rw [hc]; exact divF_le _ _ _
        clear hc
        have HS := Lib.hid hS
        have hcq := HM.out.2.2.1.cell t hqz
        have hfq := HM.out.2.2.1.free t
        have HQZ := Lib.hid hqz
        have HON : Hid (On w1 wr) := HM.out.2.2.2
        have HC1 : Hid (w1.heap.size ≤ C) := by unfold Hid; rw [HC.out]; exact HO2.out.size
        obtain ⟨n1, hn1⟩ : ∃ n1, n1 = t + last := ⟨_, rfl⟩
        have HRN : Hid (R.length = n) := HI.out.1
        have HBQ : Hid (Blk C wr Q) := HM.out.2.2.1
        rw [← hn1] at hcr HDV hxr
        have HN1 := Lib.hid hn1
        have hnm : (n : Int) - 1 = (n1 : Int) := by omega
        have hnt : (n : Int) - ((last + 1 : Nat) : Int) = (t : Int) := by omega
        have hnl : ((last + 1 : Nat) : Int) - 1 = (last : Int) := by omega
        have hw1 : IntKind.i64.wrap (n1 : Int) = (n1 : Int) := IntWalk.i64_in _ (by omega)
        have hw2 : IntKind.i64.wrap (last : Int) = (last : Int) := IntWalk.i64_in _ (by omega)
        have hw3 : IntKind.i64.wrap (t : Int) = (t : Int) := IntWalk.i64_in _ (by omega)
        have hp1 : (0 : Int) ≤ (n1 : Int) := by omega
        have hp2 : (n1 : Int) < (n : Int) := by omega
        have hp3 : (0 : Int) ≤ (last : Int) := by omega
        have hp4 : (last : Int) < ((last + 1 : Nat) : Int) := by omega
        have htn : t < na := by omega
        have HT := Lib.hid ht
        clear hS hsz hqz hn1 ht HI HM
        generalize hxR : R.getD n1 0 = xr at *
        generalize hxB : B.getD last 0 = xb at *
        clear hxR hxB
        obtain ⟨nb, hnb⟩ : ∃ nb, nb = last + 1 := ⟨_, rfl⟩
        rw [← hnb] at hge hnt hnl hp4 HCB h1' ⊢
        have HNB := Lib.hid hnb
        clear hnb
        go_wp2
        go_quiet ((first | (go_at_call 48; exact quiet_of_drawn (HDV.out _))))
        have hcq2 : (wr.drewN nq).cell? ⟨C, t, none⟩ = _ := hcq
        have hfq2 : (wr.drewN nq).frozen? ⟨C, t, none⟩ = false := hfq
        have HW5 : Hid (Row gr cr ((wr.drewN nq).setCell ⟨C, t, none⟩ (.int .u64 (c : Int))) R ∧ Blk C ((wr.drewN nq).setCell ⟨C, t, none⟩ (.int .u64 (c : Int))) (Q.set t c) ∧ On w1 ((wr.drewN nq).setCell ⟨C, t, none⟩ (.int .u64 (c : Int)))) :=
          ⟨(HROW.out.drewN nq).setOther _ HGC.out _, (HBQ.out.drewN nq).set t c HQZ.out, (HON.out.drewN nq).setCell HC1.out _⟩
        go_wp2_with fail
        go_loopw [13] (fun vi wq => ∃ (i : Nat) (o : List Nat), i ≤ nb ∧ vi = .int .i64 (i : Int) ∧ Hid (Upto R (rSub f B R t c) (t + i) o ∧ Row gr cr wq o ∧ Blk C wq (Q.set t c) ∧ On w1 wq)) (fun vi _ => nb - (intOf vi).toNat)
        case atStart => exact ⟨0, R, Nat.zero_le _, rfl, rSub_start f B R t c, HW5.out⟩
        case round =>
          rename World => wq
          obtain ⟨i, o, hi, rfl, HI2⟩ := hrel
          by_cases hlt : i < nb
          · obtain ⟨j, hj⟩ : ∃ j, j = t + i := ⟨_, rfl⟩
            have hjn : j < n := by have := HT.out; have := HNB.out; omega
            have hjo : j < o.length := by rw [HI2.out.1.1, HRN.out]; exact hjn
            have hco := HI2.out.2.1.blk.cell j hjo
            have hfo := HI2.out.2.1.blk.free j
            have hat : o.getD j 0 = R.getD j 0 := by rw [hj]; exact HI2.out.1.at (by rw [HRN.out, ← hj]; exact hjn)
            have hU := HI2.out.1.step (by rw [HRN.out, ← hj]; exact hjn)
            rw [← hj] at hU
            have hrs : rSub f B R t c j = subF f (R.getD j 0) (mulF f c (B.getD i 0)) := by unfold rSub; rw [if_neg (by omega), show j - t = i by omega]
            rw [hrs] at hU
            rw [hat] at hco
            have hy : R.getD j 0 ≤ 998244353 := by have := getD_lt hp HRL.out j; have := pOf_le f; omega
            have hz : B.getD i 0 ≤ 18446744073709551615 := HUB.out _ (getD_mem B i (by rw [HLAST.out, ← HNB.out]; exact hlt))
            have hcb := HCB.out wq i HI2.out.2.2.2 hlt
            have hml := mulF_le f c (B.getD i 0)
            have HU2 := Lib.hid hU
            have hti : t + (i + 1) = j + 1 := by omega
            have HB2 : Hid (∀ z q, Row gr cr ((wq.drewN q).setCell ⟨gr, j, none⟩ (.int .u64 ((z : Nat) : Int))) (o.set j z) ∧ Blk C ((wq.drewN q).setCell ⟨gr, j, none⟩ (.int .u64 ((z : Nat) : Int))) (Q.set t c) ∧ On w1 ((wq.drewN q).setCell ⟨gr, j, none⟩ (.int .u64 ((z : Nat) : Int)))) := fun z q =>
              ⟨(HI2.out.2.1.drewN q).set j z, (HI2.out.2.2.1.drewN q).setOther _ (Ne.symm HGC.out) _, (HI2.out.2.2.2.drewN q).setCell HGB.out _⟩
            have hadd : (t : Int) + (i : Int) = (j : Int) := by omega
            have hwj : IntKind.i64.wrap (j : Int) = (j : Int) := IntWalk.i64_in _ (by omega)
            have hj0 : (0 : Int) ≤ (j : Int) := by omega
            have hjn2 : (j : Int) < (n : Int) := by omega
            have hi0 : (0 : Int) ≤ (i : Int) := by omega
            have hin : (i : Int) < (nb : Int) := by omega
            have HTI := Lib.hid hti
            clear hrs hat hU hti hjo hj
            generalize R.getD j 0 = y at *
            generalize B.getD i 0 = z at *
            go_wp2_with fail
            refine region_quiet_tail 20 (by kernel_rfl) (by kernel_rfl) ?_
            simp only [List.take_succ_cons, List.take_zero, List.drop_succ_cons, List.drop_zero]
            repeat (quiet_step ((first | (go_at_call 43; exact quiet_of_drawn (rmul_any f c z _ (by omega) hz)) | (go_at_call 49; exact quiet_of_drawn (rsub_any f y (mulF f c z) _ (by omega) (by omega))))))
            refine wpQuiet_nil ?_
            intro _ hw'
            obtain ⟨nq, hw''⟩ := hw'
            subst hw''
            have hco2 : (wq.drewN nq).cell? ⟨gr, j, none⟩ = _ := hco
            have hfo2 : (wq.drewN nq).frozen? ⟨gr, j, none⟩ = false := hfo
            go_wp2
            go_roundw
            case rel => exact ⟨i + 1, _, by omega, by go_num, by rw [HTI.out]; exact HU2.out, HB2.out _ _⟩
            case measure => simp [intOf]; omega
          · obtain rfl : i = nb := by omega
            have hLo : o.length = n := by rw [HI2.out.1.1, HRN.out]
            have hTu : Upto R (rSub f B R t c) R.length o := by rw [HRN.out, HT.out, ← HNB.out]; exact HI2.out.1
            have hE := hTu.done
            have HSS := HS.out
            rw [← hE] at HSS
            have HS2 := Lib.hid HSS
            have hoU : ∀ x ∈ o, x ≤ 18446744073709551615 := fun x hx => by
              rw [hE] at hx
              obtain ⟨y, _, rfl⟩ := List.mem_map.1 hx
              have := rSub_lt (t := t) (c := c) (B := B) hp HRL.out y
              have := pOf_le f; omega
            have hOw : Ow w1.heap.size wq (.slice (some ⟨gr, 0, none⟩) o.length cr) o := Ow.of_row HI2.out.2.1 HGB.out
            rw [hLo] at hOw
            have HRO := Lib.hid (hOw.reads hoU)
            have HBQ2 := Lib.hid HI2.out.2.2.1
            have HOQ := Lib.hid HI2.out.2.2.2
            have hLo2 : o.length ≤ 1000 := by omega
            clear hTu hE HSS hoU hOw HI2 hLo
            go_wp2_with fail
            refine (rnorm_any f o _ wq HOQ.out.tab HRO.out hLo2).mono ?_
            rintro e w6 ⟨⟨u6, rfl, hu6⟩, hO6⟩
            obtain ⟨a6, c6, rfl⟩ := hu6.shape
            have HNE6 : Hid ((Value.slice a6 (normF f o).length c6).ownBlock ≠ some C) := by
              unfold Hid
              rcases hu6.cases with ⟨h, h2⟩ | ⟨g, cap, h2, hb, hrow⟩
              · rw [h2]; simp [Value.ownBlock]
              · have := HBQ2.out.1
                rw [h2]; simp [Value.ownBlock]; omega
            have HU6 := Lib.hid (hu6.mono HOQ.out.size)
            have HB6 := Lib.hid (HBQ2.out.on hO6)
            have HO6 := Lib.hid (HOQ.out.trans hO6)
            have hlow : (normF f o).length < n := by have := HS2.out.2; rw [HRN.out] at this; exact this
            have HR6 := Lib.hid HS2.out.1
            clear hO6 hu6
            go_wp2_with fail
            go_roundw
            case rel => exact ⟨_, _, _, a6, c6, by omega, rfl, ⟨rfl, HR6.out⟩, HU6.out, HNE6.out, HB6.out, HO6.out⟩
            case measure => simp [lenSl]; omega
      · have HD := Lib.hid (HDONE.out Q R HI.out.2 (by rw [HI.out.1, HLAST.out]; omega))
        have hQl : Q.length = na := by rw [HI.out.2.1, HNAL.out]
        have hQU : ∀ x ∈ Q, x ≤ 18446744073709551615 := fun x hx => by have := HI.out.2.2.1 x hx; have := pOf_le f; omega
        have hRQ := HM.out.2.2.1.reads hQU (by omega) na
        rw [hQl] at hRQ
        have HRQ := Lib.hid hRQ
        have HOQ := Lib.hid HM.out.2.2.2
        have HWR := Lib.hid HM.out.1
        have hQl2 : Q.length ≤ 1000 := by omega
        clear hRQ hQU hQl HM HI
        go_wp2_with fail
        refine (rnorm_any f Q _ wr HOQ.out.tab HRQ.out hQl2).mono ?_
        rintro e w6 ⟨⟨u6, rfl, hu6⟩, hO6⟩
        have HU6 := Lib.hid (hu6.mono (Nat.le_trans HO1.out.size HOQ.out.size))
        have HW6 := Lib.hid ((HWR.out.on hO6).mono HO1.out.size)
        have HO6 := Lib.hid ((HO1.out.trans HOQ.out).trans hO6)
        clear hO6 hu6
        go_wp2
        go_ret3
        exact ⟨fun h => absurd (HLAST.out.symm.trans h) (by omega), fun _ => ⟨_, _, _, _, rfl, HU6.out, HW6.out, HD.out⟩, HO6.out⟩
end Go.Proofs.YtdhacfagmfecgaaDoor
