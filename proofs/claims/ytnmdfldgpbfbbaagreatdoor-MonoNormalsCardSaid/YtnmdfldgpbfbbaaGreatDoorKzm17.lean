/- Package mono: Normal. -/
import Derived.Test.YtnmdfldgpbfbbaaGreatDoorKzm15
import Derived.Test.YtnmdfldgpbfbbaaGreatDoorKzm16
set_option linter.unusedSimpArgs false
set_option linter.unusedVariables false
/- Package mono: Normal. -/
namespace Go.Proofs.YtnmdfldgpbfbbaaGreatDoor
open Go.Shelf Go.RowKit Go.Lib Go.Sort
set_option linter.unusedVariables false

def nfR (f : Int) (s : List Mo) : List Mo := if validB f = true then normS f s else []
def nfE (f : Int) : Int := if validB f = true then 0 else 1
theorem putM_len (f : Int) (c : Nat) (u : List Vr) : ∀ L, (putM f L c u).length ≤ L.length + 1
  | [] => by simp [putM]
  | (d, v) :: r => by
    unfold putM
    split
    · simp
    · have := putM_len f c u r; simp; omega
theorem collect_len (f : Int) : ∀ (s L : List Mo), (collect f L s).length ≤ L.length + s.length
  | [], L => by simp [collect]
  | m :: r, L => by
    have ih := collect_len f r (addM f L m.1 m.2)
    have h := putM_len f m.1 (srtV m.2) L
    unfold collect at ih ⊢
    rw [List.foldl_cons]
    unfold addM at ih ⊢
    simp only [List.length_cons]; omega
theorem collect_snoc (f : Int) (s : List Mo) (k : Nat) (h : k < s.length) : collect f [] (s.take (k + 1)) = addM f (collect f [] (s.take k)) (s.getD k zM).1 (s.getD k zM).2 := by
  rw [take_snoc_m s zM k h]; unfold collect; rw [List.foldl_append]; rfl
theorem normF_no (f : Int) (v : Value) (w : World) (hT : Tab w) (hv : validB f = false) :
    Calls Tryz.prog 6 #[.int .i64 f, v] w fun e w' => e = .returned (.tuple #[.slice none 0 0, .int .i64 1]) ∧ On w w' := by
  have HV : Hid (∀ w, Calls Tryz.prog 16 #[.int .i64 f] w fun e w' => e = .returned (.bool false) ∧ w = w') := fun w => by have h := valid_any f w; rw [hv] at h; exact h
  have H0 := Lib.hid (On.refl hT)
  clear hv hT
  go_enter Tryz.func6, Tryz.ntmps6
  go_wp2_with (go_at_call 16; refine (HV.out _).mono ?_; rintro e w' ⟨rfl, rfl⟩)
  go_ret2
  exact ⟨rfl, H0.out⟩
theorem vls_one {w : World} {b : Nat} {a : Option Addr} {n c : Nat} {l : List Vr} (hc : w.cell? ⟨b, 0, none⟩ = some (.slice a n c)) (h : VRd w (.slice a n c) l) : VLs w (.slice (some ⟨b, 0, none⟩) 1 1) 1 (fun _ => l) :=
  ⟨_, _, rfl, by omega, fun j hj => by
    obtain rfl : j = 0 := by omega
    exact ⟨b, 0, _, rfl, hc, h⟩⟩
theorem catF_one (l : List Vr) : catF (fun _ => l) 1 = l := by simp [catF]
set_option maxRecDepth 100000 in
set_option maxHeartbeats 2000000 in
theorem normF_yes (f : Int) (s : List Mo) (v : Value) (w : World) (hT : Tab w) (hP : Pw w) (hv : validB f = true) (hR : MRd w v s) (hs : s.length ≤ 1000000) (hl : ∀ m ∈ s, m.2.length ≤ 1000000) :
    Calls Tryz.prog 6 #[.int .i64 f, v] w fun e w' => (∃ u, e = .returned (.tuple #[u, .int .i64 0]) ∧ MRd w' u (normS f s)) ∧ On w w' := by
  have hp := (valid_iff f).1 hv
  have HV : Hid (∀ w, Calls Tryz.prog 16 #[.int .i64 f] w fun e w' => e = .returned (.bool true) ∧ w = w') := fun w => by have h := valid_any f w; rw [hv] at h; exact h
  obtain ⟨a, cap, rfl⟩ := hR.shape
  have HC := Lib.hid hR.cells
  have HLE := Lib.hid hR.le
  have HNC := Lib.hid (newc_any f w hT)
  have HP := Lib.hid hP
  have HLV : Hid (∀ k, k < s.length → (s.getD k zM).2.length ≤ 1000000) := fun k hk => by
    rw [List.getD_eq_getElem?_getD, List.getElem?_eq_getElem hk]; exact hl _ (List.getElem_mem _)
  have HCL : Hid (∀ k, (collect f [] (s.take k)).length ≤ k) := fun k => by
    have := collect_len f (s.take k) []; have : (s.take k).length ≤ k := by simp; omega
    simp at *; omega
  have HPW : Hid ((collect f [] s).Pairwise (fun a b => a.2 ≠ b.2)) := (Apt.collect hp s (L := []) ⟨List.Pairwise.nil, by simp⟩).1
  obtain ⟨n, hn⟩ : ∃ n, s.length = n := ⟨_, rfl⟩
  have HN := Lib.hid hn
  rw [hn] at HC hs HLV ⊢
  clear hT hP hR hl hn
  go_enter Tryz.func6, Tryz.ntmps6
  go_wp2_with (first | (go_at_call 16; refine (HV.out _).mono ?_; rintro e w' ⟨rfl, rfl⟩) | (go_at_call 17; refine HNC.out.mono ?_; rintro e w1 ⟨⟨C, rfl, hCol⟩, hO1⟩))
  have HCOL := Lib.hid hCol
  have HO1 := Lib.hid hO1
  clear hCol hO1 HNC
  go_loopw [16] (fun vi wr => ∃ k : Nat, k ≤ n ∧ vi = .int .i64 (k : Int) ∧ Hid (Col (fun _ => False) w.heap.size C f wr (collect f [] (s.take k))) ∧ Hid (On w wr)) (fun vi _ => n - (intOf vi).toNat)
  case atStart => exact ⟨0, Nat.zero_le _, rfl, HCOL, HO1⟩
  case round =>
    rename World => wr
    obtain ⟨k, hk, rfl, HCO, HO⟩ := hrel
    by_cases hlt : k < n
    · obtain ⟨b, off, a', c', rfl, c0, c1, c2⟩ := HC.out k hlt
      have c0' := (HO.out.cell (p := ⟨b, off + k * 2, none⟩) (cell_size c0)).trans c0
      have c1' := (HO.out.cell (p := ⟨b, off + k * 2 + 1, none⟩) (cell_size c1)).trans c1
      have hlt' : (k : Int) < (n : Int) := by omega
      have HVR := Lib.hid (c2.on HO.out)
      have hle := HLE.out k
      have HS := Lib.hid (collect_snoc f s k (by rw [HN.out]; exact hlt))
      have hvl := HLV.out k hlt
      have hcl := HCL.out k
      clear c0 c1 c2
      generalize (s.getD k zM).1 = cc at *
      generalize (s.getD k zM).2 = vs at *
      obtain ⟨L, hLe⟩ : ∃ L, L = collect f [] (s.take k) := ⟨_, rfl⟩
      rw [← hLe] at HCO HS hcl
      clear hLe
      obtain ⟨w2, hw2⟩ : ∃ w2, w2 = (wr.alloc (.cells #[.int .u64 ((cc : Nat) : Int), .slice a' vs.length c'] 34)).alloc (.cells #[.slice a' vs.length c'] 32) := ⟨_, rfl⟩
      have hO2 : On w w2 := by rw [hw2]; exact (HO.out.alloc _).alloc _
      have hOr : On wr w2 := by rw [hw2]; exact ((On.refl HO.out.tab).alloc _).alloc _
      have hcb : w2.cell? ⟨wr.heap.size + 1, 0, none⟩ = some (.slice a' vs.length c') := by
        rw [hw2, World.cell?_alloc_at _ _ (wr.heap.size + 1) 0 (by simp)]; rfl
      have hvr2 := HVR.out.on hOr
      have hcat := catF_one vs
      have HADD := Lib.hid (cadd_any (W0 := w) (fun _ => False) C f L cc (fun _ => vs) 1 (.slice (some ⟨wr.heap.size + 1, 0, none⟩) 1 1) w2 hO2 (HP.out.on hO2) (HCO.out.on hOr) (vls_one hcb hvr2) (by rw [hcat]; exact hvr2.1) (by rw [hcat]; exact hvl) (by omega) hle)
      rw [hcat] at HADD
      rw [← HS.out] at HADD
      have HW2 := Lib.hid hw2
      clear hw2 hO2 hOr hcb hvr2 hcat HVR HCO HO
      go_wp2_with (go_at_call 18; rw [← HW2.out]; refine HADD.out.mono ?_; rintro e w3 ⟨rfl, hC3, hO3, -⟩)
      go_roundw
      case rel => exact ⟨k + 1, by omega, by simp, Lib.hid hC3, Lib.hid hO3⟩
      case measure => simp [intOf]; omega
    · obtain rfl : k = n := by omega
      have hE : collect f [] (s.take k) = collect f [] s := by rw [← HN.out, List.take_length]
      have hcl := HCL.out k
      rw [hE] at HCO hcl
      have HNO := Lib.hid (normal_any (W0 := w) (fun _ => False) C f _ wr HO.out HCO.out (by omega) HPW.out)
      clear hE HCO HPW
      go_wp2_with (go_at_call 19; refine HNO.out.mono ?_; rintro e w3 ⟨⟨u, rfl, hM⟩, hO3⟩)
      go_ret2
      exact ⟨⟨_, rfl, hM⟩, hO3⟩
theorem normF_any (f : Int) (s : List Mo) (v : Value) (w : World) (hT : Tab w) (hP : Pw w) (hR : MRd w v s) (hs : s.length ≤ 1000000) (hl : ∀ m ∈ s, m.2.length ≤ 1000000) :
    Calls Tryz.prog 6 #[.int .i64 f, v] w fun e w' => (∃ u, e = .returned (.tuple #[u, .int .i64 (nfE f)]) ∧ MRd w' u (nfR f s)) ∧ On w w' := by
  unfold nfE nfR
  cases hv : validB f
  · exact (normF_no f v w hT hv).mono fun e w' ⟨h1, h2⟩ => ⟨⟨_, h1, MRd.nil _ _ _⟩, h2⟩
  · exact normF_yes f s v w hT hP hv hR hs hl
end Go.Proofs.YtnmdfldgpbfbbaaGreatDoor
