/- AbsorbCap: what the call returns. -/
import Derived.Test.YtcbmeegmdgllkaaDoorHabs
import Derived.Test.YtcbmeegmdgllkaaDoorHown
namespace Go.Proofs.YtcbmeegmdgllkaaDoor
open Go.RowKit
set_option linter.unusedVariables false

/-- The slice value v reads in w as the digests l. -/
def RD (w : World) (v : Value) (l : List (Nat × Nat)) : Prop :=
  (∀ i, i < l.length → (l.getD i (0, 0)).1 ≤ 18446744073709551615 ∧ (l.getD i (0, 0)).2 ≤ 18446744073709551615) ∧ l.length ≤ 9223372036854775807 ∧
    ((l = [] ∧ ∃ a cap, v = .slice a 0 cap) ∨
      ∃ b off cap, v = .slice (some ⟨b, off, none⟩) l.length cap ∧ ∀ i, i < l.length → w.cell? ⟨b, off + i * 2, none⟩ = some (.int .u64 (((l.getD i (0, 0)).1 : Nat) : Int)) ∧ w.cell? ⟨b, off + i * 2 + 1, none⟩ = some (.int .u64 (((l.getD i (0, 0)).2 : Nat) : Int)))
theorem RD.on {W w : World} {v : Value} {l : List (Nat × Nat)} (h : RD W v l) (hW : On W w) : RD w v l := by
  obtain ⟨hU, hL, h1 | ⟨b, off, cap, rfl, hc⟩⟩ := h
  · exact ⟨hU, hL, .inl h1⟩
  · refine ⟨hU, hL, .inr ⟨b, off, cap, rfl, fun i hi => ?_⟩⟩
    have c := hc i hi
    rw [hW.2.cell (p := ⟨b, off + i * 2, none⟩) (cell_size c.1), hW.2.cell (p := ⟨b, off + i * 2 + 1, none⟩) (cell_size c.2)]
    exact c
theorem RD.spot {w : World} {a : Option Addr} {cap : Nat} {l : List (Nat × Nat)} (h : RD w (.slice a l.length cap) l) (k : Nat) (hk : k < l.length) :
    ∃ b off, a = some ⟨b, off, none⟩ ∧ w.cell? ⟨b, off + k * 2, none⟩ = some (.int .u64 (((l.getD k (0, 0)).1 : Nat) : Int)) ∧ w.cell? ⟨b, off + k * 2 + 1, none⟩ = some (.int .u64 (((l.getD k (0, 0)).2 : Nat) : Int)) := by
  obtain ⟨_, _, h | ⟨b, off, cap', e, h⟩⟩ := h
  · rw [h.1] at hk; simp at hk
  · simp only [Value.slice.injEq] at e
    exact ⟨b, off, e.1, h k hk⟩
/-- The numbers of digests. -/
def numL : List (Nat × Nat) → List Nat
  | [] => []
  | d :: l => d.1 :: d.2 :: numL l
theorem numL_len (l : List (Nat × Nat)) : (numL l).length = 2 * l.length := by
  induction l with
  | nil => rfl
  | cons d l ih => simp only [numL, List.length_cons, ih]; omega
theorem numL_append (l m : List (Nat × Nat)) : numL (l ++ m) = numL l ++ numL m := by
  induction l with
  | nil => rfl
  | cons d l ih => simp only [List.cons_append, numL, ih]
theorem take_one {α : Type} (l : List α) (k : Nat) (z : α) (hk : k < l.length) : l.take (k + 1) = l.take k ++ [l.getD k z] := by
  rw [List.take_succ_eq_append_getElem hk, List.getD_eq_getElem?_getD, List.getElem?_eq_getElem hk]; rfl
theorem numL_step (l : List (Nat × Nat)) (k : Nat) (hk : k < l.length) : numL (l.take (k + 1)) = numL (l.take k) ++ [(l.getD k (0, 0)).1, (l.getD k (0, 0)).2] := by
  rw [take_one l k (0, 0) hk, numL_append]; rfl
theorem numL_le (l : List (Nat × Nat)) (h : ∀ i, i < l.length → (l.getD i (0, 0)).1 ≤ 18446744073709551615 ∧ (l.getD i (0, 0)).2 ≤ 18446744073709551615) : ∀ x ∈ numL l, x ≤ 18446744073709551615 := by
  induction l with
  | nil => intro x hx; simp [numL] at hx
  | cons d l ih =>
    intro x hx
    have h0 := h 0 (by simp)
    simp only [numL, List.mem_cons] at hx
    rcases hx with rfl | rfl | hx
    · exact h0.1
    · exact h0.2
    · exact ih (fun i hi => h (i + 1) (by simpa using hi)) x hx
set_option maxHeartbeats 4000000 in
set_option maxRecDepth 100000 in
theorem cap_yes (f : Int) (s : St) (l : List (Nat × Nat)) (a : Option Addr) (cap m : Nat) (w : World) (hT : Tab w) (hv : validB f = true) (hs : Sm s) (hm : l.length = m) (hRd : RD w (.slice a m cap) l) (hl : m ≤ 1000) :
    Calls Tryd.prog 23 #[.agg #[.int .i64 f, .int .u64 (s.a : Int), .int .u64 (s.b : Int), .int .u64 (s.c : Int), .int .u64 (s.d : Int)], .slice a m cap] w fun e w' => e = .returned (.agg #[.int .i64 f, .int .u64 ((absL f (modS f s) (numL l)).a : Int), .int .u64 ((absL f (modS f s) (numL l)).b : Int), .int .u64 ((absL f (modS f s) (numL l)).c : Int), .int .u64 ((absL f (modS f s) (numL l)).d : Int)]) ∧ On w w' := by
  obtain ⟨W0, hW0, hA, hR, hO⟩ := boxC hT f s
  have HO := Lib.hid hO
  have HW0 := Lib.hid hW0
  have HRD := Lib.hid hRd
  have HLM := Lib.hid hm
  have HVV := Lib.hid hv
  have HSS := Lib.hid hs
  have HAA := Lib.hid hA
  have HRR := Lib.hid hR
  have hsz : W0.heap.size = w.heap.size + 2 := by rw [hW0]; simp
  have hmk : (Instr.makeSlice 46 (.int .i64 0) (.int .i64 ((2 * m : Nat) : Int))).run Tryd.prog W0 = .ok (.slice (some ⟨W0.heap.size, 0, none⟩) 0 (2 * m)) (W0.alloc (.cells (madeCells #[.int .u64 0] (2 * m)) 22)) := make_run2 0 (2 * m) (Nat.zero_le _) (by omega) W0
  have hw2 : IntKind.i64.wrap (2 * (m : Int)) = ((2 * m : Nat) : Int) := by
    rw [show (2 * (m : Int)) = ((2 * m : Nat) : Int) by omega]; exact IntWalk.i64_in _ (by omega)
  have hw3 : (2 * (m : Int)) = ((2 * m : Nat) : Int) := by omega
  have HROW := Lib.hid (row_made W0 (2 * m) (by omega))
  have HO1 : Hid (On W0 (W0.alloc (.cells (madeCells #[.int .u64 0] (2 * m)) 22))) := (On.refl hO.tab).alloc _
  rw [hsz] at HROW hmk
  have HMK := Lib.hid hmk
  have HW2 := Lib.hid hw2
  have HW3 := Lib.hid hw3
  clear hW0 hA hR hO hv hT hRd hs hm hmk hw2 hw3
  go_enter Tryd.func23, Tryd.ntmps23
  go_upto_region 1 with fail
  rw [← HW0.out]
  have hmk := HMK.out
  have hw3 := HW3.out
  generalize hMM : 2 * m = M at *
  have HMM := Lib.hid hMM
  clear hMM
  go_upto_region 3 with fail
  have HB1 := Lib.hid (HO.out.trans HO1.out)
  have HA1 := Lib.hid (HAA.out.on HO1.out)
  have HR1 := Lib.hid (HRR.out.on HO1.out)
  generalize W0.alloc (.cells (madeCells #[.int .u64 0] M) 22) = w1 at *
  clear hmk hw3 HMK HW2 HW3 HW0 HO HAA HRR HO1 hsz
  go_loopw [5, 14] (fun sv vi wr => ∃ k : Nat, k ≤ m ∧ vi = .int .i64 (k : Int) ∧ sv = .slice (some ⟨w.heap.size + 2, 0, none⟩) (2 * k) M ∧ Hid (Row (w.heap.size + 2) M wr (numL (l.take k))) ∧ Hid (VB w.heap.size wr (chL f s)) ∧ Hid (VB (w.heap.size + 1) wr (chL 0 z4)) ∧ Hid (On w wr)) (fun _ vi _ => m - (intOf vi).toNat)
  case atStart => exact ⟨0, by omega, rfl, rfl, HROW.out, HA1.out, HR1.out, HB1.out⟩
  case round =>
    clear HROW HA1 HR1 HB1
    obtain ⟨k, hk, rfl, rfl, HROW, HA, HR, HO⟩ := hrel
    by_cases hkm : k < m
    · have hkl : k < l.length := by rw [HLM.out]; exact hkm
      obtain ⟨b, off, rfl, hc1, hc2⟩ := (show RD wr (.slice a l.length cap) l by rw [HLM.out]; exact HRD.out.on HO.out).spot k hkl
      have hst := numL_step l k hkl
      obtain ⟨x, hx⟩ : ∃ x, (l.getD k (0, 0)).1 = x := ⟨_, rfl⟩
      obtain ⟨y, hy⟩ : ∃ y, (l.getD k (0, 0)).2 = y := ⟨_, rfl⟩
      rw [hx, hy] at hst
      rw [hx] at hc1
      rw [hy] at hc2
      have hlt : (numL (l.take k)).length = 2 * k := by rw [numL_len, List.length_take]; omega
      obtain ⟨wz, hrun, hrow, hap⟩ := append_room2 (w.heap.size + 2) M x y wr.heap.size (2 * k) (2 * (k + 1)) 48 (numL (l.take k)) wr HROW.out (by rw [hlt]; have := HMM.out; omega) rfl hlt (by omega)
      rw [← hst] at hrow
      have HRUN := Lib.hid hrun
      have HROW2 := Lib.hid hrow
      have HA2 : Hid (VB w.heap.size wz (chL f s)) := HA.out.kept hap.size (hap.block w.heap.size HA.out.1 (by simp))
      have HR2 : Hid (VB (w.heap.size + 1) wz (chL 0 z4)) := HR.out.kept hap.size (hap.block (w.heap.size + 1) HR.out.1 (by simp))
      have HO2 := Lib.hid (HO.out.ap (by omega) hap)
      have hwk : IntKind.i64.wrap ((k : Int) + 1) = (k : Int) + 1 := IntWalk.i64_in _ (by omega)
      have HWK := Lib.hid hwk
      clear hst hlt hrun hrow hap hx hy hwk
      go_wp2_with (at_builtin; refine wp_append2 rfl (.tmp 18) (.tmp 19) _ _ rfl _ _ _ rfl rfl HRUN.out ?_)
      go_roundw
      case rel => exact ⟨k + 1, by omega, by go_num, rfl, HROW2.out, HA2.out, HR2.out, HO2.out⟩
      case measure => simp [intOf]; omega
    · obtain rfl : k = m := by omega
      have htl : l.take k = l := List.take_of_length_le (by rw [HLM.out]; omega)
      rw [htl] at HROW
      have hnl : (numL l).length = 2 * k := by rw [numL_len, HLM.out]
      obtain ⟨Z, hZ⟩ : ∃ Z, Z = absL f (modS f s) (numL l) := ⟨_, rfl⟩
      have HC : Hid (Calls Tryd.prog 22 #[.agg #[.int .i64 f, .int .u64 (s.a : Int), .int .u64 (s.b : Int), .int .u64 (s.c : Int), .int .u64 (s.d : Int)], .slice (some ⟨w.heap.size + 2, 0, none⟩) (2 * k) M] wr fun e w' => e = .returned (.agg #[.int .i64 f, .int .u64 (Z.a : Int), .int .u64 (Z.b : Int), .int .u64 (Z.c : Int), .int .u64 (Z.d : Int)]) ∧ On wr w') := by
        have hrd := HROW.out.blk.reads (numL_le l HRD.out.1) (by omega) M
        have h := absorb_yes f s (numL l) (some ⟨w.heap.size + 2, 0, none⟩) M wr HO.out.tab HVV.out HSS.out hrd (by omega)
        rw [hnl, ← hZ] at h; exact h
      have HZ := Lib.hid hZ
      clear hZ htl hnl HROW
      obtain ⟨c0, c1, c2, c3, c4⟩ := HA.out.cells5
      go_wp2_with fail
      with_reducible refine HC.out.mono ?_
      rintro e w2 ⟨rfl, hO2⟩
      have HR2 := Lib.hid (HR.out.on hO2)
      have HO2 := Lib.hid (HO.out.trans hO2)
      clear hO2 c0 c1 c2 c3 c4 HC
      obtain ⟨r0, r1, r2, r3, r4⟩ := HR2.out.cells5
      obtain ⟨g0, g1, g2, g3, g4⟩ := HR2.out.free5
      have HP := Lib.hid (HR2.out.store5 f Z)
      go_wp2
      obtain ⟨p0, p1, p2, p3, p4⟩ := HP.out.cells5
      refine bodyPost_ret (v := .agg #[.int .i64 f, .int .u64 (Z.a : Int), .int .u64 (Z.b : Int), .int .u64 (Z.c : Int), .int .u64 (Z.d : Int)]) (by simp [results, Tryd.results23, go_sem, p0, p1, p2, p3, p4]; try rfl) rfl ?_
      exact ⟨by rw [HZ.out], HO2.out.store5 (by omega) _ _ _ _ _⟩
end Go.Proofs.YtcbmeegmdgllkaaDoor
