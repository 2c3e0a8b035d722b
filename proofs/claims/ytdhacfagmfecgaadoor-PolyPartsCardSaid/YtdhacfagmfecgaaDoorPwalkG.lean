/- Package poly: Divide: what the call returns. -/
import Derived.Test.YtdhacfagmfecgaaDoorPwalkF
import Derived.Test.YtdhacfagmfecgaaDoorPdivm
import Derived.Test.YtdhacfagmfecgaaDoorQtail
namespace Go.Proofs.YtdhacfagmfecgaaDoor
open Go.RowKit
set_option linter.unusedVariables false

theorem divide_no (f : Int) (l m : List Nat) (v v' : Value) (w : World) (hT : Tab w) (hv : validB f = false) :
    Calls Tryd.prog 23 #[.int .i64 f, v, v'] w fun e w' => e = .returned (.tuple #[.slice none 0 0, .slice none 0 0, .int .i64 1]) ∧ w = w' := by
  have HV := Lib.hid hv; clear hv
  go_enter Tryd.func23, Tryd.ntmps23
  go_wp2_with (go_at_call 45; refine (valid_any _ _).mono ?_; rintro e w' ⟨rfl, rfl⟩; rw [HV.out])
  go_ret3
  exact ⟨rfl, rfl⟩
theorem Fre.drewN {B : Nat} {w : World} {v : Value} {l : List Nat} (h : Fre B w v l) (n : Nat) : Fre B (w.drewN n) v l := h
theorem Blk.fre {B g : Nat} {w : World} {l : List Nat} {n : Nat} (h : Blk g w l) (hB : B ≤ g) (hn : l.length = n) : Fre B w (.slice (some ⟨g, 0, none⟩) n n) l := by subst hn; exact .inr ⟨g, rfl, hB, h⟩

set_option maxHeartbeats 1600000 in
theorem divide_any (f : Int) (l m : List Nat) (v v' : Value) (w : World) (hT : Tab w) (hv : validB f = true) (hR : Reads w v l) (hR' : Reads w v' m) (hL : l.length ≤ 17592186044416) (hL' : m.length ≤ 17592186044416) :
    Calls Tryd.prog 23 #[.int .i64 f, v, v'] w fun e w' =>
      ((normF f m).length = 0 → e = .returned (.tuple #[.slice none 0 0, .slice none 0 0, .int .i64 2])) ∧
      (0 < (normF f m).length → ∃ Q R u u', e = .returned (.tuple #[u, u', .int .i64 0]) ∧ Fre w.heap.size w' u Q ∧ Fre w.heap.size w' u' R ∧ DivR f (normF f l) (normF f m) Q R) ∧ On w w' := by
  have hp := (valid_iff f).1 hv
  have HV := Lib.hid hv
  have hla := normF_len f l
  have hlb := normF_len f m
  have HA := Lib.hid (normF_lt f l hp)
  have HB := Lib.hid (normF_lt f m hp)
  have HNA := Lib.hid (normF_norm f l)
  have HUA := Lib.hid (normF_bd (f := f) (l := l))
  have HUB := Lib.hid (normF_bd (f := f) (l := m))
  have HLB : Hid (0 < (normF f m).length → (normF f m).getD ((normF f m).length - 1) 0 % pOf f ≠ 0) := fun h => norm_last hp h
  have HR := Lib.hid hR
  have HR' := Lib.hid hR'
  clear hR hR' hv
  have HN1 := Lib.hid (fun w h (hr : Reads w v l) => normal_any f l v w h hr hL)
  have HN2 := Lib.hid (fun w h (hr : Reads w v' m) => normal_any f m v' w h hr hL')
  generalize normF f l = A at *
  generalize normF f m = B at *
  go_enter Tryd.func23, Tryd.ntmps23
  go_wp2_with (go_at_call 45; refine (valid_any _ _).mono ?_; rintro e w' ⟨rfl, rfl⟩; rw [HV.out])
  refine (HN1.out _ hT HR.out).mono ?_
  rintro e w1 ⟨⟨v1, rfl, hF1⟩, hO1⟩
  obtain ⟨a1, rfl⟩ := fre_shape hF1
  have HO1 := Lib.hid hO1
  have HF1 := Lib.hid hF1
  clear hO1 hF1
  go_wp2_with fail
  refine (HN2.out _ HO1.out.tab (HR'.out.on HO1.out)).mono ?_
  rintro e w2 ⟨⟨v2, rfl, hF2⟩, hO2⟩
  obtain ⟨a2, rfl⟩ := fre_shape hF2
  have HO2 := Lib.hid (HO1.out.trans hO2)
  have HFA := Lib.hid (HF1.out.on hO2)
  have HRA := Lib.hid (HFA.out.reads HUA.out (by omega))
  have HRB := Lib.hid (hF2.reads HUB.out (by omega))
  clear hO2 hF2 HF1 HN1 HN2
  by_cases h1 : B.length = 0
  · have h1' : (((B.length : Nat) : Int) == 0) = true := by simp only [beq_iff_eq]; omega
    have H1 := Lib.hid h1; clear h1
    go_wp2
    go_ret3
    exact ⟨fun _ => rfl, fun h => (Nat.ne_of_gt h H1.out).elim, HO2.out⟩
  · have h1' : (((B.length : Nat) : Int) == 0) = false := by simp only [beq_eq_false_iff_ne, ne_eq]; omega
    by_cases h2 : A.length < B.length
    · have HD := Lib.hid (div_low f A B hp HA.out HNA.out h2)
      go_wp2
      go_ret3
      exact ⟨fun h => absurd h h1, fun _ => ⟨[], A, _, _, rfl, Fre.nil _ _, HFA.out, HD.out⟩, HO2.out⟩
    · obtain ⟨last, hlast⟩ : ∃ last : Nat, B.length = last + 1 := ⟨B.length - 1, by omega⟩
      obtain ⟨N, hM⟩ : ∃ N : Nat, A.length = N + last := ⟨A.length - last, by omega⟩
      have hN0 : 0 < N := by omega
      obtain ⟨hcB0, hRB0⟩ := reads_opt HRB.out
      obtain ⟨bb, ob, rfl, hcB⟩ := hRB0 last (by omega)
      have hb2 : B.getD last 0 ≤ 18446744073709551615 := HUB.out _ (getD_mem B last (by omega))
      have hb3 : B.getD last 0 % pOf f ≠ 0 := by have := HLB.out (by omega); rwa [hlast, Nat.add_sub_cancel] at this
      have hbm : ((B.length : Nat) : Int) - 1 = (last : Int) := by omega
      have ham : ((A.length : Nat) : Int) - (last : Int) = (N : Int) := by omega
      have hinv := invF_le f (B.getD last 0)
      have hmk := make_run N (by omega) w2
      have HMK := Lib.hid (blk_made w2 N)
      have HO3 : Hid (On w2 (w2.alloc (.cells (madeCells #[.int .u64 0] N) 23))) := (On.refl HO2.out.tab).alloc _
      have HB3 := Lib.hid hb3
      have HLAST := Lib.hid hlast
      have HMM := Lib.hid hM
      have HT2 := Lib.hid HO2.out.tab
      clear hcB0 hRB0 hb3 HLB
      have hlastn : last ≤ 17592186044416 := by omega
      have hMn : N ≤ 17592186044416 := by omega
      have HST := Lib.hid (QInv.start f A B last N hp)
      clear hlast hM
      have HSTEP : Hid (∀ k q, k < N → QInv f A B last N (k + 1) q → QInv f A B last N k (q.set k (mulF f (subF f (A.getD (k + last) 0) (conv q B (k + last) % pOf f)) (invF f (B.getD last 0))))) := fun k q hk h => h.step HV.out hk HLAST.out HA.out HB3.out
      generalize B.getD last 0 = bl at *
      go_wp2_with (go_at_call 47; refine (inv_any f _ _ HT2.out hb2).mono ?_; rintro e w' ⟨rfl, rfl⟩)
      clear hmk hcB hbm ham
      go_loopw [11] (fun vi wr => ∃ (k : Nat) (q : List Nat), k ≤ N ∧ vi = .int .i64 ((k : Int) - 1) ∧ Hid (QInv f A B last N k q) ∧ Blk w2.heap.size wr q ∧ On w2 wr) (fun vi _ => ((intOf vi) + 1).toNat)
      case atStart => exact ⟨N, _, Nat.le_refl _, rfl, HST, HMK.out, HO3.out⟩
      case round =>
        obtain ⟨k, q, hk, rfl, HQ, hB, hOn⟩ := hrel
        cases k with
        | zero =>
          have HD := Lib.hid (div_done HQ.out HV.out HLAST.out HMM.out hN0 HA.out HNA.out)
          have HQL := Lib.hid HQ.out.1
          have HBQ := Lib.hid hB
          have HOQ := Lib.hid hOn
          have hmk := make_run last (by omega) wr
          have HMK2 := Lib.hid (blk_made wr last)
          have HO5 : Hid (On wr (wr.alloc (.cells (madeCells #[.int .u64 0] last) 23))) := (On.refl HOQ.out.tab).alloc _
          have HQR := Lib.hid (hB.reads (fun x hx => by have := HQ.out.2.1 x hx; have := pOf_le f; omega) (by rw [HQ.out.1]; omega) N)
          rw [HQ.out.1] at HQR
          have HQX := Lib.hid HQ.out.2.1
          have HRA2 := Lib.hid (HRA.out.on hOn)
          have HRB2 := Lib.hid (HRB.out.on hOn)
          have HDR : Hid (remL f A B q last = (List.range last).map fun i => subF f (A.getD i 0) (conv q B i % pOf f)) := rfl
          generalize remL f A B q last = rl at *
          clear hB hOn HQ HSTEP HST HMK HO3
          obtain ⟨wo, hwo⟩ : ∃ wo : World, wo = wr := ⟨_, rfl⟩
          subst hwo
          rw [show (((0 : Nat) : Int) - 1) = -1 from rfl]
          go_wp2
          clear hmk
          go_loopw [79] (fun vi wr => ∃ (k : Nat) (o : List Nat), k ≤ last ∧ vi = .int .i64 (k : Int) ∧ Hid (Upto (List.replicate last 0) (fun i => subF f (A.getD i 0) (conv q B i % pOf f)) k o) ∧ Blk wo.heap.size wr o ∧ On wo wr) (fun vi _ => last - (intOf vi).toNat)
          case atStart => exact ⟨0, _, Nat.zero_le _, rfl, Upto.zero _ _, HMK2.out, HO5.out⟩
          case round =>
            obtain ⟨k, o, hk, rfl, HU, hB, hOn⟩ := hrel
            by_cases hlt : k < last
            · have hkP : k < (List.replicate last 0).length := by rw [List.length_replicate]; exact hlt
              have hko : k < o.length := by rw [HU.out.1]; exact hkP
              obtain ⟨-, hcA⟩ := reads_opt (HRA2.out.on hOn)
              obtain ⟨ba, oa, rfl, hcell⟩ := hcA k (by have := HMM.out; omega)
              have hx := HUA.out _ (getD_mem A k (by have := HMM.out; omega))
              have hkA : k < A.length := by have := HMM.out; omega
              have hco := hB.cell k hko
              generalize o.getD k 0 = y at *
              have hfr := hB.free k
              have HU2 : Hid (Upto (List.replicate last 0) (fun i => subF f (A.getD i 0) (conv q B i % pOf f)) (k + 1) (o.set k (subF f (A.getD k 0) (conv q B k % pOf f)))) := HU.out.step hkP
              have HB2 : Hid (∀ z n n', Blk wo.heap.size (((wr.drewN n).drewN n').setCell ⟨wo.heap.size, k, none⟩ (.int .u64 ((z : Nat) : Int))) (o.set k z)) := fun z n n' => ((hB.drewN n).drewN n').set k _ hko
              have HO4 : Hid (∀ u n n', On wo (((wr.drewN n).drewN n').setCell ⟨wo.heap.size, k, none⟩ u)) := fun u n n' => ((hOn.drewN n).drewN n').setCell (Nat.le_refl _) _
              have HCF : Hid (∀ w' (K : Int), On wr w' → K = (k : Int) → _) := fun w' K hw' hK => coef_any f q B _ _ K k w' hw'.tab ((HQR.out.on hOn).on hw') ((HRB2.out.on hOn).on hw') hp HQX.out HB.out hK (by omega) (by rw [HQL.out]; omega) (by omega)
              have hcl : conv q B k % pOf f ≤ 998244353 := by have := Nat.mod_lt (conv q B k) hp; have := pOf_le f; omega
              have HOO := Lib.hid (On.refl hOn.tab)
              clear hB hOn hcA hkP hko HU
              generalize A.getD k 0 = x at *
              generalize conv q B k % pOf f = c at *
              go_wp2
              have hTq := Lib.hid HOO.out.tab
              refine region_quiet_tail 14 (by kernel_rfl) (by kernel_rfl) ?_
              simp only [List.take_succ_cons, List.take_zero, List.drop_succ_cons, List.drop_zero]
              repeat (quiet_step ((first | (go_at_call 46; exact quiet_of_drewN (HCF.out _ _ (HOO.out.drewN _) rfl)) | (go_at_call 40; exact quiet_of_eq (sub_any _ _ _ _ (hTq.out.drewN _) hx (by omega))))))
              refine wpQuiet_nil ?_
              intro _ hw'
              obtain ⟨nq, hw''⟩ := hw'
              subst hw''
              have hco2 : (wr.drewN nq).cell? ⟨wo.heap.size, k, none⟩ = _ := hco
              have hfr2 : (wr.drewN nq).frozen? ⟨wo.heap.size, k, none⟩ = false := hfr
              go_wp2
              go_roundw
              case rel => exact ⟨k + 1, _, by omega, by go_num, HU2, HB2.out _ 0 _, HO4.out _ 0 _⟩
              case measure => simp [intOf]; omega
            · obtain rfl : k = last := by omega
              have hLo := HU.out.1
              rw [List.length_replicate] at hLo
              have hTu : Upto (List.replicate k 0) (fun i => subF f (A.getD i 0) (conv q B i % pOf f)) (List.replicate k 0).length o := by rw [List.length_replicate]; exact HU.out
              have hE := hTu.done
              rw [List.length_replicate, ← HDR.out] at hE
              subst hE
              have ht := trim_blk w.heap.size wo.heap.size o k wr (by omega) (by omega) hB (by have := HO2.out.size; have := HOQ.out.size; omega)
              rw [hLo] at ht
              have HTR := Lib.hid ht
              have HFQ : Hid (Fre w.heap.size wr (.slice (some ⟨w2.heap.size, 0, none⟩) N N) q) := (HBQ.out.on hOn).fre HO2.out.size HQL.out
              have HOF := Lib.hid ((HO2.out.trans HOQ.out).trans hOn)
              clear HU hB hOn hLo hTu ht
              go_wp2_with (go_at_call 33; refine HTR.out.mono ?_; rintro e w' ⟨⟨u, rfl, hF⟩, rfl⟩)
              go_ret3
              exact ⟨fun h => absurd h h1, fun _ => ⟨_, _, _, _, rfl, HFQ.out, hF, HD.out⟩, HOF.out⟩
        | succ k =>
          have hki : ((k + 1 : Nat) : Int) - 1 = (k : Int) := by omega
          obtain ⟨-, hcA⟩ := reads_opt (HRA.out.on hOn)
          obtain ⟨ba, oa, rfl, hcell⟩ := hcA (k + last) (by have := HMM.out; omega)
          have hx := HUA.out _ (getD_mem A (k + last) (by have := HMM.out; omega))
          have hkq : k < q.length := by rw [HQ.out.1]; omega
          have hco := hB.cell k hkq
          have hfr := hB.free k
          have HQ2 := Lib.hid (HSTEP.out k q (by omega) HQ.out)
          have HB2 : Hid (∀ z n, Blk w2.heap.size ((wr.drewN n).setCell ⟨w2.heap.size, k, none⟩ (.int .u64 ((z : Nat) : Int))) (q.set k z)) := fun z n => (hB.drewN n).set k _ hkq
          have HO4 : Hid (∀ u n, On w2 ((wr.drewN n).setCell ⟨w2.heap.size, k, none⟩ u)) := fun u n => (hOn.drewN n).setCell (Nat.le_refl _) _
          have HQR := Lib.hid (hB.reads (fun x hx => by have := HQ.out.2.1 x hx; have := pOf_le f; omega) (by rw [HQ.out.1]; omega) N)
          rw [HQ.out.1] at HQR
          have HCF : Hid (∀ n (K : Int), K = ((k + last : Nat) : Int) → _) := fun n K hK => coef_any f q B _ _ K (k + last) (wr.drewN n) (hOn.tab.drewN n) (HQR.out.drewN n) ((HRB.out.on hOn).drewN n) hp HQ.out.2.1 HB.out hK (by omega) (by rw [HQ.out.1]; omega) (by omega)
          have hTr := hOn.tab
          have hs := subF_le f (A.getD (k + last) 0) (conv q B (k + last) % pOf f)
          have hcl : conv q B (k + last) % pOf f ≤ 998244353 := by have := Nat.mod_lt (conv q B (k + last)) hp; have := pOf_le f; omega
          have hw1 : IntKind.i64.wrap ((k : Int) + (last : Int)) = (k : Int) + (last : Int) := IntWalk.i64_in _ (by omega)
          have hw2 : 0 ≤ (k : Int) + (last : Int) := by omega
          have hw4 : (k : Int) + (last : Int) < (A.length : Int) := by have := HMM.out; omega
          have hw3 : ((k : Int) + (last : Int)).toNat = k + last := by omega
          clear hB hOn hcA hkq
          generalize A.getD (k + last) 0 = x at *
          generalize conv q B (k + last) % pOf f = c at *
          rw [hki]
          clear hki
          go_wp2
          go_quiet ((first | (go_at_call 46; exact quiet_of_drewN (HCF.out _ _ (by omega))) | (go_at_call 40; exact quiet_of_eq (sub_any _ _ _ _ (hTr.drewN _) hx (by omega)))))
          have hT3 := Lib.hid (hTr.drewN nq)
          have hco2 : (wr.drewN nq).cell? ⟨w2.heap.size, k, none⟩ = _ := hco
          have hfr2 : (wr.drewN nq).frozen? ⟨w2.heap.size, k, none⟩ = false := hfr
          clear hw1 hw2 hw3
          go_wp2_with (go_at_call 42; refine (mul_any _ _ _ _ hT3.out (by omega) (by omega)).mono ?_; rintro e w' ⟨rfl, rfl⟩)
          go_roundw
          case rel => exact ⟨k, _, by omega, rfl, HQ2, HB2.out _ _, HO4.out _ _⟩
          case measure => simp [intOf]
end Go.Proofs.YtdhacfagmfecgaaDoor
