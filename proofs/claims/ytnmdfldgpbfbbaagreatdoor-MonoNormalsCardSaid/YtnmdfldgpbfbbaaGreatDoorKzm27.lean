/- strconv.FormatUint and Itoa at base 10. -/
import Derived.Test.YtnmdfldgpbfbbaaGreatDoorKzm23
import Derived.Test.YtnmdfldgpbfbbaaGreatDoorKzm25
import Derived.Lib.ItoaMem
set_option linter.unusedSimpArgs false
set_option linter.unusedVariables false
/- strconv.FormatUint and Itoa at base 10. -/
namespace Go.Proofs.YtnmdfldgpbfbbaaGreatDoor
open Go.Shelf Go.RowKit Go.Lib Go.Sort
set_option linter.unusedVariables false

theorem On.grown {w : World} (hT : Tab w) (k : Nat) (os : Array Obj) : On w (grow (w.drewN k) os) := by
  refine ⟨hT, rfl, rfl, rfl, ?_, fun i hi => ?_⟩
  · simp [grow, World.drewN]
  · rw [heap_grow_old _ _ (by simpa [World.drewN] using hi)]; rfl
abbrev eB : UInt8 → Value := fun b => Value.int .u8 (b.toNat : Int)
set_option maxRecDepth 100000 in
set_option maxHeartbeats 2000000 in
theorem fmtu_any (u : Nat) (hu64 : u < 18446744073709551616) (w : World) (hT : Tab w) (hP : Pw w) :
    Calls Tryz.prog 53 #[.int .u64 (u : Int), .int .i64 10] w fun e w' => e = .returned (.string ⟨(decDigits u).toArray⟩) ∧ On w w' := by
  by_cases hs : u < 100
  · have HS := Lib.hid (Tryz.internal_strconv_small u hs)
    have H0 := Lib.hid (On.refl hT)
    have hs' : (u : Int) < 100 := by omega
    clear hT hP
    go_enter Tryz.func53, Tryz.ntmps53
    go_wp2_with (go_at_call 68; refine (HS.out _).mono ?_; rintro e w' ⟨rfl, rfl⟩)
    go_ret
    exact ⟨rfl, H0.out⟩
  · have hs' : ¬ (u : Int) < 100 := by omega
    have hu1 : 1 ≤ u := by omega
    have hnd : nDigits u ≤ 20 := nDigits_le u hu64
    have hal : Tryz.prog.arrayLen 103 = 24 := by simp [Program.arrayLen, Tryz.underlying103]
    obtain ⟨W1, hW1⟩ : ∃ W1, W1 = w.alloc (.cells zeros24 103) := ⟨_, rfl⟩
    have hH0 : Holds eB W1 w.heap.size 0 (Array.replicate (nDigits u) (0 : UInt8)) := fun j hj => by
      have hj' : j < nDigits u := by simpa using hj
      rw [hW1]
      refine ⟨?_, World.frozen?_alloc_new _ _ _ _⟩
      rw [World.cell?_alloc_new, zeros24_at _ (by omega), getElem!_pos _ j hj]
      simp
    have hsl : ∀ W, (Instr.sliceAt 103 (.pointer (some ⟨w.heap.size, 0, none⟩)) none (some (.int .i64 (nDigits u : Int))) none).run Tryz.prog W = .ok (.slice (some ⟨w.heap.size, 0, none⟩) (nDigits u) 24) W := fun W => by
      rw [run_sliceAt_array_h W 103 ⟨w.heap.size, 0, none⟩ (by simp [Program.arrayLen, Program.elem, Tryz.underlying103]) .i64 (nDigits u : Int) (by omega) (by rw [hal]; omega)]
      go_simp
    have hfmt := Tryz.internal_strconv_formatBase10 w.heap.size 0 24 u (Array.replicate (nDigits u) 0) W1 hH0 (by rw [Array.size_replicate]; exact lt_pow_nDigits u) hu64 (by rw [Array.size_replicate]; omega)
    rw [Array.size_replicate] at hfmt
    have hO1 : On w W1 := by rw [hW1]; exact (On.refl hT).alloc _
    have HN := Lib.hid (Tryz.internal_strconv_numDigits u hu1 hu64 W1 (hP.on hO1))
    have HF := Lib.hid hfmt
    have HH := Lib.hid hH0
    have HT := Lib.hid hT
    have HW1 := Lib.hid hW1
    clear hfmt hH0 hT hP hO1 hal hW1
    go_enter Tryz.func53, Tryz.ntmps53
    go_upto_region 5 with fail
    have hW2 := HW1.out
    unfold zeros24 at hW2
    rw [← hW2]
    clear hW2
    go_wp2_with (first | (go_at_call 69; refine HN.out.mono ?_; rintro e w' ⟨rfl, he⟩; rw [he]; clear he w') | (go_at_call 70; refine HF.out.mono ?_; rintro e w' ⟨rfl, k, v', dk, rfl, hI⟩; refine Hid.out ?_))
    refine Lib.hid ?_
    have hcv : (convert 57 9 (.slice (some ⟨w.heap.size, 0, none⟩) (nDigits u) 24)).run Tryz.prog ((putRow eB W1 w.heap.size 0 dk).drewN k) = .ok (.string ⟨(decDigits u).toArray⟩) ((putRow eB W1 w.heap.size 0 dk).drewN k) := by
      have h := run_convert_bytes_back (P := Tryz.prog) ((putRow eB W1 w.heap.size 0 dk).drewN k) 57 9 5 ⟨w.heap.size, 0, none⟩ 24 (decDigits u) Tryz.underlying57 Tryz.underlying5 Tryz.underlying9 (fun j hj => by
        rw [row_is_numeral hI j hj, add_plain, World.cell?_drewN]
        exact cell?_putRow eB _ w.heap.size 0 _ dk HH.out (by rw [hI.size, Array.size_replicate]) j (by rw [hI.size]; rw [decDigits_length] at hj; exact hj))
      rw [decDigits_length] at h
      exact h
    have HON : Hid (On w ((putRow eB W1 w.heap.size 0 dk).drewN k)) := by
      unfold Hid
      rw [HW1.out, alloc_eq_grow]
      obtain ⟨os', _, e⟩ := putRow_grow_new eB w #[.cells zeros24 103] w.heap.size 0 dk (Nat.le_refl _)
      rw [e]
      exact On.grown HT.out k os'
    clear hI
    go_wp2
    go_ret
    exact ⟨rfl, HON.out⟩
theorem fmt_any (u : Nat) (hu64 : u < 18446744073709551616) (w : World) (hT : Tab w) (hP : Pw w) :
    Calls Tryz.prog 29 #[.int .u64 (u : Int), .int .i64 10] w fun e w' => e = .returned (.string ⟨(decDigits u).toArray⟩) ∧ On w w' := by
  have HC := Lib.hid (fmtu_any u hu64 w hT hP)
  clear hT hP
  go_enter Tryz.func29, Tryz.ntmps29
  go_wp2_with (go_at_call 53; refine HC.out.mono ?_; rintro e w' ⟨rfl, hO⟩)
  go_ret
  exact ⟨rfl, hO⟩
theorem itoa_any (n : Int) (h0 : -9223372036854775808 ≤ n) (h1 : n ≤ 9223372036854775807) (w : World) (hT : Tab w) (hP : Pw w) :
    Calls Tryz.prog 31 #[.int .i64 n] w fun e w' => e = .returned (.string ⟨(itoa n).toArray⟩) ∧ On w w' :=
  (Tryz.strconv_Itoa n h0 h1 w hP).mono fun e w' ⟨he, k, os, hw⟩ => ⟨he, by rw [hw]; exact On.grown hT k os⟩
/-- The names of the kinds. -/
def nameB (k : Int) : List UInt8 :=
  if k = 1 then [109, 97, 105, 110] else if k = 2 then [110, 101, 120, 116] else if k = 3 then [102, 105, 120, 101, 100] else if k = 4 then [112, 117, 98, 108, 105, 99] else if k = 5 then [97, 117, 120] else if k = 6 then [97, 117, 120, 110, 101, 120, 116] else if k = 7 then [99, 104, 97, 108, 108, 101, 110, 103, 101] else [118, 97, 114]
theorem name_any (k : Int) (w : World) : Calls Tryz.prog 30 #[.int .u8 k] w fun e w' => e = .returned (.string ⟨(nameB k).toArray⟩) ∧ w = w' := by
  rcases kinds7 k with rfl | rfl | rfl | rfl | rfl | rfl | rfl | h
  all_goals first
    | (go_enter Tryz.func30, Tryz.ntmps30
       go_wp2
       go_ret
       exact ⟨rfl, rfl⟩)
    | skip
  obtain ⟨h1, h2, h3, h4, h5, h6, h7⟩ := h
  have hn : nameB k = [118, 97, 114] := by simp [nameB, h1, h2, h3, h4, h5, h6, h7]
  rw [hn]
  have e1 := beq_no h1; have e2 := beq_no h2; have e3 := beq_no h3; have e4 := beq_no h4; have e5 := beq_no h5; have e6 := beq_no h6; have e7 := beq_no h7
  clear h1 h2 h3 h4 h5 h6 h7 hn
  go_enter Tryz.func30, Tryz.ntmps30
  go_wp2
  go_ret
  exact ⟨rfl, rfl⟩
end Go.Proofs.YtnmdfldgpbfbbaaGreatDoor
