/- Plain facts of FoldLinear: the fold of a sum of multiples. -/
import Derived.Test.YtiibcfajcndcnaaDoorKg02
import Derived.Test.YtiibcfajcndcnaaDoorKf16
import Derived.Test.YtiibcfajcndcnaaDoorKf15
import Derived.Deep.DeepCutAuto
import Derived.Test.YtiibcfajcndcnaaDoorKf18
import Derived.Test.YtiibcfajcndcnaaDoorKf19
/- Plain facts of FoldLinear: the fold of a sum of multiples. -/
namespace Go.Proofs.YtiibcfajcndcnaaDoor
set_option linter.unusedVariables false

/-- A multiple of a list and another one, place by place. -/
def linL (f : Int) (A B : List Nat) (m n : Nat) : List Nat := (List.range n).map fun i => addF f (mulF f (A.getD i 0) m) (B.getD i 0)
theorem linL_len (f : Int) (A B : List Nat) (m n : Nat) : (linL f A B m n).length = n := by simp [linL]
theorem linL_getD (f : Int) (A B : List Nat) (m n i : Nat) (h : i < n) : (linL f A B m n).getD i 0 = addF f (mulF f (A.getD i 0) m) (B.getD i 0) := by unfold linL; rw [getD_range, if_pos h]
theorem linL_le (f : Int) (A B : List Nat) (m n : Nat) : ∀ x ∈ linL f A B m n, x ≤ 18446744073709551615 := fun x hx => by
  unfold linL at hx
  obtain ⟨i, _, rfl⟩ := List.mem_map.1 hx
  have := addF_le f (mulF f (A.getD i 0) m) (B.getD i 0)
  omega
theorem linL_take (f : Int) (A B : List Nat) (m n i : Nat) (hi : i < n) : (linL f A B m n).take (i + 1) = (linL f A B m n).take i ++ [addF f (mulF f (A.getD i 0) m) (B.getD i 0)] := by
  rw [take_snoc _ i (by rw [linL_len]; exact hi), linL_getD _ _ _ _ _ _ hi]
theorem pad_le9 {l : List Nat} (h : ∀ x ∈ l, x ≤ 18446744073709551615) (n : Nat) : ∀ x ∈ pad l n, x ≤ 18446744073709551615 := fun x hx => by
  unfold pad at hx
  obtain ⟨i, _, rfl⟩ := List.mem_map.1 hx
  rcases Nat.lt_or_ge i l.length with h1 | h1
  · exact h _ (getD_mem l i h1)
  · rw [getD_over h1]; omega
theorem fold_lin {f : Int} {K s : Nat} (hv : validD f K s = true) (h3 : 3 ≤ K) (A B : List Nat) (m z : Nat) : fldL f K s (linL f A B m (2 ^ K)) z = linL f (fldL f K s A z) (fldL f K s B z) m (2 ^ K / 8) := by
  obtain ⟨hvf, -, hk2, -, -, -, -⟩ := validD_nat hv
  have hp := (valid_iff f).1 hvf
  refine list_ext (by rw [fldL_len, linL_len]) fun i hi => ?_
  rw [fldL_len] at hi
  rw [fldL_getD _ _ _ _ _ _ hi, linL_getD _ _ _ _ _ _ hi, fldL_getD _ _ _ _ _ _ hi, fldL_getD _ _ _ _ _ _ hi]
  have hxn : ptF f K s i % pOf f ≠ 0 := by
    have := point_sh hv i
    unfold shB at this
    rw [hvf, Bool.true_and, decide_eq_true_eq, redF_pos _ _ hp] at this
    exact this
  unfold fldF locF
  refine at_lin hvf _ hxn _ _ m z (pickL_len _ _ _) (pickL_len _ _ _) _ (pickL_len _ _ _) fun j hj => ?_
  have h8 := eight_of h3
  have hij : i + j * (2 ^ K / 8) < 2 ^ K := by
    have : j * (2 ^ K / 8) ≤ 7 * (2 ^ K / 8) := Nat.mul_le_mul_right _ (by omega)
    omega
  unfold pickL
  simp only [getD_range, if_pos hj]
  rw [linL_getD _ _ _ _ _ _ hij, redF_pos _ _ hp, addF_pos _ _ _ hp, Nat.mod_mod]
end Go.Proofs.YtiibcfajcndcnaaDoor

/- The walk of the law FoldLinear: it returns true. -/
namespace Go.Proofs.YtiibcfajcndcnaaDoor
open Go.RowKit
set_option linter.unusedVariables false

set_option maxRecDepth 100000 in
set_option maxHeartbeats 3000000 in
theorem linear_core (X : Int) (A0 K0 K s0 s m z : Nat) (la lb : List Nat) (va vb : Value) (w : World) (hT : Tab w) (hD : TabD w) (hA1 : A0 ≤ 255) (hK1 : K0 ≤ 255) (hs0 : s0 ≤ 18446744073709551615) (hm : m ≤ 18446744073709551615) (hz : z ≤ 18446744073709551615) (hv : validB X = true) (hA : (A0 : Int) % 4 = X) (hK : K = kD X K0) (hs : s = shD X s0) (hRa : Reads w va la) (hRb : Reads w vb lb) :
    Calls Tryd.prog 6 #[.int .u8 (A0 : Int), .int .u8 (K0 : Int), .int .u64 (s0 : Int), va, vb, .int .u64 (m : Int), .int .u64 (z : Int)] w fun e w' => e = .returned (.bool true) ∧ On w w' := by
  have hvD : validD X K s = true := by rw [hK, hs]; exact fshD_valid X K0 s0 hv
  have hDM := fdomain_any X A0 K0 s0 w hT hv hA hA1 hK1 hs0
  rw [← hK, ← hs] at hDM
  have HDM := Lib.hid hDM
  have hk3 : 3 ≤ K := by rw [hK]; exact kD_three X K0
  have hk7 : K ≤ 7 := by rw [hK]; exact kD_le X K0
  have hp8 := eight_of hk3
  have hM128 : 2 ^ K ≤ 2 ^ 7 := Nat.pow_le_pow_right (by omega) hk7
  obtain ⟨M, hM⟩ : ∃ M, M = 2 ^ K := ⟨_, rfl⟩
  obtain ⟨m8, hm8⟩ : ∃ m8, m8 = 2 ^ K / 8 := ⟨_, rfl⟩
  have hMm : M = 8 * m8 := by rw [hm8, hM]; exact hp8
  have hpw : (2 : Int) ^ K = (M : Int) := by rw [hM, Int.natCast_pow]; rfl
  have hAl : (pad la M).length = M := pad_len la M
  have hBl : (pad lb M).length = M := pad_len lb M
  have hAb : ∀ x ∈ pad la M, x ≤ 18446744073709551615 := pad_le9 hRa.1 M
  have hBb : ∀ x ∈ pad lb M, x ≤ 18446744073709551615 := pad_le9 hRb.1 M
  have HCA := Lib.hid (fun g w' (h : Blk g w' (List.replicate M 0)) (hR : Reads w' va la) => copy_run w' g M M va la h hR)
  have HCB := Lib.hid (fun g w' (h : Blk g w' (List.replicate M 0)) (hR : Reads w' vb lb) => copy_run w' g M M vb lb h hR)
  obtain ⟨A, hAe⟩ : ∃ A, A = pad la M := ⟨_, rfl⟩
  obtain ⟨B, hBe⟩ : ∃ B, B = pad lb M := ⟨_, rfl⟩
  rw [← hAe] at hAl hAb
  rw [← hBe] at hBl hBb
  have hfl := fold_lin hvD hk3 A B m z
  rw [← hm8, ← hM] at hfl
  have HF : Hid (∀ (l : List Nat) (v : Value) w', l.length = M → On w w' → Reads w' v l → Calls Tryd.prog 19 #[.agg #[.int .i64 X, .int .i64 (K : Int), .int .u64 (s : Int)], v, .int .u64 (z : Int)] w' fun e w'' => ∃ R, e = .returned (.tuple #[.slice (some ⟨R, 0, none⟩) m8 m8, .int .i64 0]) ∧ Hid (Reads w'' (.slice (some ⟨R, 0, none⟩) m8 m8) (fldL X K s l z)) ∧ On w' w'') := fun l v w' hl h hR => by
    refine (fword_yes X K s z l v w' h.tab (hD.on h) hvD hk3 (by rw [hl, hM]) hz hR).mono ?_
    rintro e w'' ⟨R, -, rfl, hB, hO⟩
    have hfl : (fldL X K s l z).length = m8 := by rw [fldL_len, hm8]
    have hr := hB.reads (fldL_le _ _ _ _ _) (by omega) m8
    rw [hfl] at hr
    exact ⟨R, by rw [hm8], hr, hO⟩
  have HFA := Lib.hid (fun v w' h hR => HF.out A v w' hAl h hR)
  have HFB := Lib.hid (fun v w' h hR => HF.out B v w' hBl h hR)
  have HFS := Lib.hid (fun v w' h hR => HF.out (linL X A B m M) v w' (linL_len _ _ _ _ _) h hR)
  have HNS : Hid ((linL X A B m M).length = M) := linL_len _ _ _ _ _
  have HBS : Hid (∀ x ∈ linL X A B m M, x ≤ 18446744073709551615) := linL_le _ _ _ _ _
  have HTS : Hid (∀ i, i < M → (linL X A B m M).take (i + 1) = (linL X A B m M).take i ++ [addF X (mulF X (A.getD i 0) m) (B.getD i 0)]) := fun i hi => linL_take _ _ _ _ _ i hi
  have HLA : Hid (∀ i, A.getD i 0 ≤ 18446744073709551615) := fun i => by
    rcases Nat.lt_or_ge i A.length with h | h
    · exact hAb _ (getD_mem A i h)
    · rw [getD_over h]; omega
  have HLB : Hid (∀ i, B.getD i 0 ≤ 18446744073709551615) := fun i => by
    rcases Nat.lt_or_ge i B.length with h | h
    · exact hBb _ (getD_mem B i h)
    · rw [getD_over h]; omega
  rw [hfl] at HFS
  generalize hSe : linL X A B m M = S at *
  clear hSe hfl
  have hC1 : (fldL X K s A z).length = m8 := by rw [fldL_len, hm8]
  have hC2 : (fldL X K s B z).length = m8 := by rw [fldL_len, hm8]
  have HLC : Hid (∀ i, (fldL X K s A z).getD i 0 ≤ 18446744073709551615) := fun i => by
    rcases Nat.lt_or_ge i (fldL X K s A z).length with h | h
    · exact fldL_le _ _ _ _ _ _ (getD_mem _ i h)
    · rw [getD_over h]; omega
  have HLD : Hid (∀ i, (fldL X K s B z).getD i 0 ≤ 18446744073709551615) := fun i => by
    rcases Nat.lt_or_ge i (fldL X K s B z).length with h | h
    · exact fldL_le _ _ _ _ _ _ (getD_mem _ i h)
    · rw [getD_over h]; omega
  generalize fldL X K s A z = C at *
  generalize fldL X K s B z = D at *
  have HNT : Hid ((linL X C D m m8).length = m8) := linL_len _ _ _ _ _
  have HBT : Hid (∀ x ∈ linL X C D m m8, x ≤ 18446744073709551615) := linL_le _ _ _ _ _
  have HTT : Hid (∀ i, i < m8 → (linL X C D m m8).take (i + 1) = (linL X C D m m8).take i ++ [addF X (mulF X (C.getD i 0) m) (D.getD i 0)]) := fun i hi => linL_take _ _ _ _ _ i hi
  generalize linL X C D m m8 = T at *
  have HSM : Hid (∀ (v v' : Value) w', On w w' → Reads w' v T → Reads w' v' T → Calls Tryd.prog 36 #[v, v'] w' fun e w'' => e = .returned (.bool true) ∧ On w' w'') := fun v v' w' h h1 h2 => fw_csame _ _ v v' w' true (decide_eq_true rfl) h.tab h1 h2
  have HWK : Hid (∀ w', On w w' → Calls Tryd.prog 16 #[] w' fun e w'' => e = .returned (.bool true) ∧ On w' w'') := fun w' h => fworks_any w' h.tab (hD.on h)
  have HRA := Lib.hid hRa; have HRB := Lib.hid hRb; have HAE := Lib.hid hAe; have HBE := Lib.hid hBe
  have HAL := Lib.hid hAl; have HBL := Lib.hid hBl; have HAB := Lib.hid hAb; have HBBb := Lib.hid hBb; have HCL := Lib.hid hC1; have HDL := Lib.hid hC2
  have HOw0 := Lib.hid (On.refl hT)
  have hqM : Int.tdiv (M : Int) 8 = (m8 : Int) := by rw [hMm, Int.natCast_mul]; exact Int.mul_tdiv_cancel_left _ (by omega)
  have hqM' : (M : Int) / 8 = (m8 : Int) := by omega
  have hm16 : m8 ≤ 16 := by omega
  have hM1 : M ≤ 128 := by omega
  have hwm : IntKind.i64.wrap (m8 : Int) = (m8 : Int) := IntWalk.i64_in _ (by omega)
  have HWF : Hid (Int.tdiv (M : Int) 8 = (m8 : Int) ∧ (M : Int) / 8 = (m8 : Int) ∧ IntKind.i64.wrap (m8 : Int) = (m8 : Int)) := ⟨hqM, hqM', hwm⟩
  have hwK : IntKind.u64.wrap (K : Int) = (K : Int) := IntWalk.u64_in _ (by omega)
  have hwM : IntKind.i64.wrap (M : Int) = (M : Int) := IntWalk.i64_in _ (by omega)
  clear hDM hp8 hM128 hvD hRa hRb hv hA hK hs hM hm8 hMm hT hD hA1 hK1 hs0 hAl hBl hAb hBb hC1 hC2 hAe hBe hqM hqM' hwm HF
  go_enter Tryd.func6, Tryd.ntmps6
  go_wp2_with fail
  go_at_call 27
  with_reducible refine HDM.out.mono ?_
  rintro e w1 ⟨rfl, hO1⟩
  have hS0 := dom_new w1 (.int .i64 X) (.int .i64 (K : Int)) (.int .u64 (s : Int)) 24
  obtain ⟨u, hu⟩ : ∃ u, u = w1.alloc (.cells #[.int .i64 X, .int .i64 (K : Int), .int .u64 (s : Int)] 24) := ⟨_, rfl⟩
  have HOU : Hid (On w u) := by rw [hu]; exact hO1.alloc _
  rw [← hu] at hS0
  have HSB : Hid (∀ w', On u w' → w'.cell? ⟨w1.heap.size, 0, none⟩ = some (.int .i64 X) ∧ w'.cell? ⟨w1.heap.size, 1, none⟩ = some (.int .i64 (K : Int)) ∧ w'.cell? ⟨w1.heap.size, 2, none⟩ = some (.int .u64 (s : Int))) := fun w' h => dom_on hS0 h
  have HU := Lib.hid hu
  clear hu hO1 hS0 HDM
  obtain ⟨d1, d2, d3⟩ := HSB.out u (On.refl HOU.out.tab)
  go_upto_region 2 with fail
  rw [← HU.out]
  go_upto_region 3 with fail
  clear d1 d2 d3 hwK hpw
  go_cut [17, 18] (fun s7 s8 wx => ∃ g h : Nat, s7 = .slice (some ⟨g, 0, none⟩) M M ∧ s8 = .slice (some ⟨h, 0, none⟩) M M ∧ Hid (g ≠ h ∧ u.heap.size ≤ g ∧ u.heap.size ≤ h ∧ Blk g wx (List.replicate M 0) ∧ Blk h wx (List.replicate M 0) ∧ On u wx))
  case first =>
    have hmk := fun w => make_run M (by omega) w
    refine region_head_tail (S := fun wq => On u wq) 5 (by kernel_rfl) (by kernel_rfl) ?_
    obtain ⟨V0, hV0⟩ : ∃ V0, V0 = u.drew := ⟨_, rfl⟩
    have hSd : On u V0 := by rw [hV0]; exact (On.refl HOU.out.tab).drew
    rw [← hV0]
    clear hV0
    have hb1 := (blk_made V0 M).on ((On.refl (hSd.alloc (.cells (madeCells #[.int .u64 0] M) 22)).tab).alloc (.cells (madeCells #[.int .u64 0] M) 22))
    have hb2 := blk_made (V0.alloc (.cells (madeCells #[.int .u64 0] M) 22)) M
    have hsz : (V0.alloc (.cells (madeCells #[.int .u64 0] M) 22)).heap.size = V0.heap.size + 1 := by simp
    rw [hsz] at hb2
    have hge := hSd.size
    have HMA : Hid (V0.heap.size ≠ V0.heap.size + 1 ∧ u.heap.size ≤ V0.heap.size ∧ u.heap.size ≤ V0.heap.size + 1 ∧ Blk V0.heap.size ((V0.alloc (.cells (madeCells #[.int .u64 0] M) 22)).alloc (.cells (madeCells #[.int .u64 0] M) 22)) (List.replicate M 0) ∧ Blk (V0.heap.size + 1) ((V0.alloc (.cells (madeCells #[.int .u64 0] M) 22)).alloc (.cells (madeCells #[.int .u64 0] M) 22)) (List.replicate M 0) ∧ On u ((V0.alloc (.cells (madeCells #[.int .u64 0] M) 22)).alloc (.cells (madeCells #[.int .u64 0] M) 22))) := ⟨by omega, hge, by omega, hb1, hb2, (hSd.alloc _).alloc _⟩
    have HMB : Hid (V0.heap.size + 1 ≠ V0.heap.size ∧ u.heap.size ≤ V0.heap.size + 1 ∧ u.heap.size ≤ V0.heap.size ∧ Blk (V0.heap.size + 1) ((V0.alloc (.cells (madeCells #[.int .u64 0] M) 22)).alloc (.cells (madeCells #[.int .u64 0] M) 22)) (List.replicate M 0) ∧ Blk V0.heap.size ((V0.alloc (.cells (madeCells #[.int .u64 0] M) 22)).alloc (.cells (madeCells #[.int .u64 0] M) 22)) (List.replicate M 0) ∧ On u ((V0.alloc (.cells (madeCells #[.int .u64 0] M) 22)).alloc (.cells (madeCells #[.int .u64 0] M) 22))) := ⟨by omega, by omega, hge, hb2, hb1, (hSd.alloc _).alloc _⟩
    clear hb1 hb2 hsz hge
    refine HeadG.take (i := 0) (v := ?hdv3x0) rfl (by kernel_rfl) (by kernel_rfl) (by kernel_rfl) (by kernel_rfl) (by kernel_rfl) (by kernel_rfl) (by kernel_rfl) (fun _ _ _ h => h) (Or.inl ⟨by rfl, ?hdy3x0⟩) hSd ?hdr3x0
    case hdy3x0 => (intro w' hSw; skip; go_simp; try with_reducible rfl)
    try simp only [Act.put, List.setIfInBounds_toArray, List.set_cons_zero, List.set_cons_succ, List.getElem_toArray, List.getElem_cons_zero, List.getElem_cons_succ]
    refine HeadG.take (i := 2) (v := ?hdv4x2) rfl (by kernel_rfl) (by kernel_rfl) (by kernel_rfl) (by kernel_rfl) (by kernel_rfl) (by kernel_rfl) (by kernel_rfl) (fun _ _ _ h => h) (Or.inl ⟨by rfl, ?hdy4x2⟩) hSd ?hdr4x2
    case hdy4x2 => (intro w' hSw; skip; go_simp; try with_reducible rfl)
    try simp only [Act.put, List.setIfInBounds_toArray, List.set_cons_zero, List.set_cons_succ, List.getElem_toArray, List.getElem_cons_zero, List.getElem_cons_succ]
    refine HeadG.fork2 (i := 1) (j := 3) rfl rfl (by kernel_rfl) (by kernel_rfl) (by kernel_rfl) (fun K9 hK9 => ?_) (fun K9 hK9 => ?_)
    · go_simp
      refine hK9.out _ _ (hSd.alloc _) ?_
      clear hK9 K9
      try simp only [Act.put, List.setIfInBounds_toArray, List.set_cons_zero, List.set_cons_succ, List.getElem_toArray, List.getElem_cons_zero, List.getElem_cons_succ]
      refine HeadG.take (i := 4) (v := ?hdv1x4) rfl (by kernel_rfl) (by kernel_rfl) (by kernel_rfl) (by kernel_rfl) (by kernel_rfl) (by kernel_rfl) (by kernel_rfl) (fun _ _ _ h => h) (Or.inl ⟨by rfl, ?hdy1x4⟩) (hSd.alloc _) ?hdr1x4
      case hdy1x4 => (intro w' hSw; skip; go_simp; try with_reducible rfl)
      try simp only [Act.put, List.setIfInBounds_toArray, List.set_cons_zero, List.set_cons_succ, List.getElem_toArray, List.getElem_cons_zero, List.getElem_cons_succ]
      refine HeadG.one (i := 3) rfl (by kernel_rfl) (by kernel_rfl) (fun K9 hK9 => ?_)
      go_simp
      refine hK9.out _ _ ((hSd.alloc _).alloc _) ?_
      clear hK9 K9
      try simp only [Act.put, List.setIfInBounds_toArray, List.set_cons_zero, List.set_cons_succ, List.getElem_toArray, List.getElem_cons_zero, List.getElem_cons_succ]
      refine HeadG.last (i := 5) rfl (by kernel_rfl) (by kernel_rfl) (by kernel_rfl) (fun K9 hK9 => ?_)
      go_simp
      refine hK9.out _ _ ?_
      clear hK9 K9
      try simp only [Act.put, List.setIfInBounds_toArray, List.set_cons_zero, List.set_cons_succ, List.getElem_toArray, List.getElem_cons_zero, List.getElem_cons_succ]
      go_wp2_with fail
      go_meet
      exact ⟨_, _, rfl, rfl, HMA.out⟩
    · go_simp
      refine hK9.out _ _ (hSd.alloc _) ?_
      clear hK9 K9
      try simp only [Act.put, List.setIfInBounds_toArray, List.set_cons_zero, List.set_cons_succ, List.getElem_toArray, List.getElem_cons_zero, List.getElem_cons_succ]
      refine HeadG.one (i := 1) rfl (by kernel_rfl) (by kernel_rfl) (fun K9 hK9 => ?_)
      go_simp
      refine hK9.out _ _ ((hSd.alloc _).alloc _) ?_
      clear hK9 K9
      try simp only [Act.put, List.setIfInBounds_toArray, List.set_cons_zero, List.set_cons_succ, List.getElem_toArray, List.getElem_cons_zero, List.getElem_cons_succ]
      refine HeadG.take (i := 4) (v := ?hdv2x4) rfl (by kernel_rfl) (by kernel_rfl) (by kernel_rfl) (by kernel_rfl) (by kernel_rfl) (by kernel_rfl) (by kernel_rfl) (fun _ _ _ h => h) (Or.inl ⟨by rfl, ?hdy2x4⟩) ((hSd.alloc _).alloc _) ?hdr2x4
      case hdy2x4 => (intro w' hSw; skip; go_simp; try with_reducible rfl)
      try simp only [Act.put, List.setIfInBounds_toArray, List.set_cons_zero, List.set_cons_succ, List.getElem_toArray, List.getElem_cons_zero, List.getElem_cons_succ]
      refine HeadG.last (i := 5) rfl (by kernel_rfl) (by kernel_rfl) (by kernel_rfl) (fun K9 hK9 => ?_)
      go_simp
      refine hK9.out _ _ ?_
      clear hK9 K9
      try simp only [Act.put, List.setIfInBounds_toArray, List.set_cons_zero, List.set_cons_succ, List.getElem_toArray, List.getElem_cons_zero, List.getElem_cons_succ]
      go_wp2_with fail
      go_meet
      exact ⟨_, _, rfl, rfl, HMB.out⟩
  case rest =>
  obtain ⟨g, h, rfl, rfl, HMM⟩ := hcut
  generalize wc = w2 at *
  obtain ⟨hgh, hgu, hhu, hbg, hbh, hO2⟩ := HMM.out
  have HO2 := Lib.hid hO2
  have hwu := HOU.out.size
  obtain ⟨w3, hcA, hbA, hapA⟩ := HCA.out g w2 hbg (HRA.out.on (HOU.out.trans hO2))
  have hO3 : On u w3 := hO2.ap hgu hapA
  have hbh3 := hbh.ap hapA (by omega)
  obtain ⟨w4, hcB, hbB, hapB⟩ := HCB.out h w3 hbh3 (HRB.out.on (HOU.out.trans hO3))
  have hO4 : On u w4 := hO3.ap hhu hapB
  have HGA : Hid (Blk g w4 A) := by rw [HAE.out]; exact hbA.ap hapB (by omega)
  have HGB : Hid (Blk h w4 B) := by rw [HBE.out]; exact hbB
  have HO4 := Lib.hid hO4
  clear hO2 hapA hapB hbA hbB hbh3 hO3 hO4 hbg hbh hgh hgu hhu HMM HCA HCB hwu HO2
  go_upto_region 8 with fail
  clear hcA hcB
  have HK1 : Hid (∀ i w', i < M → On w4 w' → w'.cell? ⟨w1.heap.size, 0, none⟩ = some (.int .i64 X) ∧ w'.cell? ⟨g, i, none⟩ = some (.int .u64 ((A.getD i 0 : Nat) : Int)) ∧ w'.cell? ⟨h, i, none⟩ = some (.int .u64 ((B.getD i 0 : Nat) : Int))) := fun i w' hi hq => ⟨(HSB.out _ (HO4.out.trans hq)).1, (HGA.out.on hq).cell i (by rw [HAL.out]; exact hi), (HGB.out.on hq).cell i (by rw [HBL.out]; exact hi)⟩
  go_loopw [19, 21] (fun vx vi wr => ∃ (i : Nat) (ax : Option Addr) (cx : Nat), i ≤ M ∧ vi = .int .i64 (i : Int) ∧ vx = .slice ax i cx ∧ Hid (Ow w4.heap.size wr (.slice ax i cx) (S.take i)) ∧ Hid (On w4 wr)) (fun _ vi _ => M - (intOf vi).toNat)
  case atStart => exact ⟨0, none, 0, Nat.zero_le _, rfl, rfl, by unfold Hid; rw [List.take_zero]; exact Ow.nil _ _, On.refl HO4.out.tab⟩
  case round =>
    rename World => wr
    obtain ⟨i, ax, cx, hi, rfl, rfl, HOW, HON⟩ := hrel
    by_cases hlt : i < M
    · have hst := HTS.out i hlt
      have HCI : Hid (∀ w', On w4 w' → _) := fun w' h => HK1.out i w' hlt h
      have hab := HLA.out i
      have hbb := HLB.out i
      generalize A.getD i 0 = ai at *
      generalize B.getD i 0 = bi at *
      have hmb := mulF_le X ai m
      have hyb := addF_le X (mulF X ai m) bi
      have HML : Hid (∀ w', On w4 w' → Calls Tryd.prog 39 #[.int .i64 X, .int .u64 (ai : Int), .int .u64 (m : Int)] w' fun e w'' => e = .returned (.int .u64 ((mulF X ai m : Nat) : Int)) ∧ w' = w'') := fun w' h => mul_any X ai m w' h.tab hab hm
      have HAD : Hid (∀ w', On w4 w' → Calls Tryd.prog 38 #[.int .i64 X, .int .u64 ((mulF X ai m : Nat) : Int), .int .u64 (bi : Int)] w' fun e w'' => e = .returned (.int .u64 ((addF X (mulF X ai m) bi : Nat) : Int)) ∧ w' = w'') := fun w' h => add_any X (mulF X ai m) bi w' h.tab (by omega) hbb
      generalize mulF X ai m = mi at *
      generalize addF X mi bi = y at *
      have hml : (S.take i).length = i := by rw [List.length_take, HNS.out]; omega
      have HAP : Hid (∃ a c w2, (∀ ty, (Builtin.append_ #[33, 33] ty #[.slice ax i cx, .slice (some ⟨wr.drew.heap.size, 0, none⟩) 1 1]).run Tryd.prog (wr.drew.alloc (.cells #[.int .u64 (y : Int)] 22)) = .ok (.slice a (i + 1) c) w2) ∧ Ow w4.heap.size w2 (.slice a (i + 1) c) (S.take (i + 1)) ∧ On w4 w2) := by
        obtain ⟨v', w2, h1, h2, h3, h4⟩ := append_own w4.heap.size y _ rfl (S.take i) (.slice ax i cx) wr.drew wr.drew.heap.size rfl (HOW.out.drewN 1) HON.out.size (by rw [hml]; omega)
        rw [← hst] at h2
        obtain ⟨a, c, rfl⟩ := h2.shape
        have e : (S.take (i + 1)).length = i + 1 := by rw [List.length_take, HNS.out]; omega
        rw [e] at h1 h2
        exact ⟨a, c, w2, h1, h2, (HON.out.drew).grown (Nat.le_refl _) (HOW.out.drewN 1) h3⟩
      obtain ⟨a2, c2, w2, hr2, ho2, hw2⟩ := HAP.out
      have HR2 := Lib.hid hr2; have HO2 := Lib.hid ho2; have HW2 := Lib.hid hw2
      clear hr2 ho2 hw2 hst hml HAP
      go_upto_region 10 with fail
      refine region_head_tail (S := fun wq => On w4 wq) 18 (by kernel_rfl) (by kernel_rfl) ?_
      have hSd := HON.out.drew
      refine HeadG.take (i := 0) (v := ?hdv5x0) rfl (by kernel_rfl) (by kernel_rfl) (by kernel_rfl) (by kernel_rfl) (by kernel_rfl) (by kernel_rfl) (by kernel_rfl) (fun _ _ _ h => h) (Or.inl ⟨by rfl, ?hdy5x0⟩) hSd ?hdr5x0
      case hdy5x0 => (intro w' hSw; obtain ⟨e1, e2, e3⟩ := HCI.out w' hSw; go_simp; try with_reducible rfl)
      try simp only [Act.put, List.setIfInBounds_toArray, List.set_cons_zero, List.set_cons_succ, List.getElem_toArray, List.getElem_cons_zero, List.getElem_cons_succ]
      refine HeadG.take (i := 1) (v := ?hdv6x1) rfl (by kernel_rfl) (by kernel_rfl) (by kernel_rfl) (by kernel_rfl) (by kernel_rfl) (by kernel_rfl) (by kernel_rfl) (fun _ _ _ h => h) (Or.inl ⟨by rfl, ?hdy6x1⟩) hSd ?hdr6x1
      case hdy6x1 => (intro w' hSw; obtain ⟨e1, e2, e3⟩ := HCI.out w' hSw; go_simp; try with_reducible rfl)
      try simp only [Act.put, List.setIfInBounds_toArray, List.set_cons_zero, List.set_cons_succ, List.getElem_toArray, List.getElem_cons_zero, List.getElem_cons_succ]
      refine HeadG.take (i := 2) (v := ?hdv7x2) rfl (by kernel_rfl) (by kernel_rfl) (by kernel_rfl) (by kernel_rfl) (by kernel_rfl) (by kernel_rfl) (by kernel_rfl) (fun _ _ _ h => h) (Or.inl ⟨by rfl, ?hdy7x2⟩) hSd ?hdr7x2
      case hdy7x2 => (intro w' hSw; obtain ⟨e1, e2, e3⟩ := HCI.out w' hSw; go_simp; try with_reducible rfl)
      try simp only [Act.put, List.setIfInBounds_toArray, List.set_cons_zero, List.set_cons_succ, List.getElem_toArray, List.getElem_cons_zero, List.getElem_cons_succ]
      refine HeadG.take (i := 3) (v := ?hdv8x3) rfl (by kernel_rfl) (by kernel_rfl) (by kernel_rfl) (by kernel_rfl) (by kernel_rfl) (by kernel_rfl) (by kernel_rfl) (fun _ _ _ h => h) (Or.inl ⟨by rfl, ?hdy8x3⟩) hSd ?hdr8x3
      case hdy8x3 => (intro w' hSw; obtain ⟨e1, e2, e3⟩ := HCI.out w' hSw; go_simp; try with_reducible rfl)
      try simp only [Act.put, List.setIfInBounds_toArray, List.set_cons_zero, List.set_cons_succ, List.getElem_toArray, List.getElem_cons_zero, List.getElem_cons_succ]
      refine HeadG.take (i := 4) (v := ?hdv9x4) rfl (by kernel_rfl) (by kernel_rfl) (by kernel_rfl) (by kernel_rfl) (by kernel_rfl) (by kernel_rfl) (by kernel_rfl) (fun _ _ _ h => h) (Or.inl ⟨by rfl, ?hdy9x4⟩) hSd ?hdr9x4
      case hdy9x4 => (intro w' hSw; obtain ⟨e1, e2, e3⟩ := HCI.out w' hSw; go_simp; try with_reducible rfl)
      try simp only [Act.put, List.setIfInBounds_toArray, List.set_cons_zero, List.set_cons_succ, List.getElem_toArray, List.getElem_cons_zero, List.getElem_cons_succ]
      refine HeadG.take (i := 5) (v := ?hdv10x5) rfl (by kernel_rfl) (by kernel_rfl) (by kernel_rfl) (by kernel_rfl) (by kernel_rfl) (by kernel_rfl) (by kernel_rfl) (fun _ _ _ h => h) (Or.inl ⟨by rfl, ?hdy10x5⟩) hSd ?hdr10x5
      case hdy10x5 => (intro w' hSw; obtain ⟨e1, e2, e3⟩ := HCI.out w' hSw; go_simp; try with_reducible rfl)
      try simp only [Act.put, List.setIfInBounds_toArray, List.set_cons_zero, List.set_cons_succ, List.getElem_toArray, List.getElem_cons_zero, List.getElem_cons_succ]
      refine HeadG.take (i := 6) (v := ?hdv11x6) rfl (by kernel_rfl) (by kernel_rfl) (by kernel_rfl) (by kernel_rfl) (by kernel_rfl) (by kernel_rfl) (by kernel_rfl) (fun _ _ _ h => h) (Or.inl ⟨by rfl, ?hdy11x6⟩) hSd ?hdr11x6
      case hdy11x6 => (intro w' hSw; obtain ⟨e1, e2, e3⟩ := HCI.out w' hSw; go_simp; try with_reducible rfl)
      try simp only [Act.put, List.setIfInBounds_toArray, List.set_cons_zero, List.set_cons_succ, List.getElem_toArray, List.getElem_cons_zero, List.getElem_cons_succ]
      refine HeadG.take (i := 7) (v := ?hdv12x7) rfl (by kernel_rfl) (by kernel_rfl) (by kernel_rfl) (by kernel_rfl) (by kernel_rfl) (by kernel_rfl) (by kernel_rfl) (fun _ _ _ h => h) (Or.inl ⟨by rfl, ?hdy12x7⟩) hSd ?hdr12x7
      case hdy12x7 => (intro w' hSw; obtain ⟨e1, e2, e3⟩ := HCI.out w' hSw; go_simp; try with_reducible rfl)
      try simp only [Act.put, List.setIfInBounds_toArray, List.set_cons_zero, List.set_cons_succ, List.getElem_toArray, List.getElem_cons_zero, List.getElem_cons_succ]
      refine HeadG.take (i := 8) (v := ?hdv13x8) rfl (by kernel_rfl) (by kernel_rfl) (by kernel_rfl) (by kernel_rfl) (by kernel_rfl) (by kernel_rfl) (by kernel_rfl) (fun _ _ _ h => h) (Or.inl ⟨by rfl, ?hdy13x8⟩) hSd ?hdr13x8
      case hdy13x8 => (intro w' hSw; obtain ⟨e1, e2, e3⟩ := HCI.out w' hSw; go_simp; try with_reducible rfl)
      try simp only [Act.put, List.setIfInBounds_toArray, List.set_cons_zero, List.set_cons_succ, List.getElem_toArray, List.getElem_cons_zero, List.getElem_cons_succ]
      refine HeadG.take (i := 9) (v := ?hdv14x9) rfl (by kernel_rfl) (by kernel_rfl) (by kernel_rfl) (by kernel_rfl) (by kernel_rfl) (by kernel_rfl) (by kernel_rfl) (fun _ _ _ h => h) (Or.inl ⟨by rfl, ?hdy14x9⟩) hSd ?hdr14x9
      case hdy14x9 => (intro w' hSw; obtain ⟨e1, e2, e3⟩ := HCI.out w' hSw; go_simp; try with_reducible rfl)
      try simp only [Act.put, List.setIfInBounds_toArray, List.set_cons_zero, List.set_cons_succ, List.getElem_toArray, List.getElem_cons_zero, List.getElem_cons_succ]
      refine HeadG.take (i := 11) (v := ?hdv15x11) rfl (by kernel_rfl) (by kernel_rfl) (by kernel_rfl) (by kernel_rfl) (by kernel_rfl) (by kernel_rfl) (by kernel_rfl) (fun _ _ _ h => h) (Or.inl ⟨by rfl, ?hdy15x11⟩) hSd ?hdr15x11
      case hdy15x11 => (intro w' hSw; obtain ⟨e1, e2, e3⟩ := HCI.out w' hSw; go_simp; try with_reducible rfl)
      try simp only [Act.put, List.setIfInBounds_toArray, List.set_cons_zero, List.set_cons_succ, List.getElem_toArray, List.getElem_cons_zero, List.getElem_cons_succ]
      refine HeadG.take (i := 12) (v := ?hdv16x12) rfl (by kernel_rfl) (by kernel_rfl) (by kernel_rfl) (by kernel_rfl) (by kernel_rfl) (by kernel_rfl) (by kernel_rfl) (fun _ _ _ h => h) (Or.inl ⟨by rfl, ?hdy16x12⟩) hSd ?hdr16x12
      case hdy16x12 => (intro w' hSw; obtain ⟨e1, e2, e3⟩ := HCI.out w' hSw; go_simp; try with_reducible rfl)
      try simp only [Act.put, List.setIfInBounds_toArray, List.set_cons_zero, List.set_cons_succ, List.getElem_toArray, List.getElem_cons_zero, List.getElem_cons_succ]
      refine HeadG.take (i := 13) (v := ?hdv17x13) rfl (by kernel_rfl) (by kernel_rfl) (by kernel_rfl) (by kernel_rfl) (by kernel_rfl) (by kernel_rfl) (by kernel_rfl) (fun _ _ _ h => h) (Or.inl ⟨by rfl, ?hdy17x13⟩) hSd ?hdr17x13
      case hdy17x13 => (intro w' hSw; obtain ⟨e1, e2, e3⟩ := HCI.out w' hSw; go_simp; try with_reducible rfl)
      try simp only [Act.put, List.setIfInBounds_toArray, List.set_cons_zero, List.set_cons_succ, List.getElem_toArray, List.getElem_cons_zero, List.getElem_cons_succ]
      refine HeadG.take (i := 14) (v := ?hdv18x14) rfl (by kernel_rfl) (by kernel_rfl) (by kernel_rfl) (by kernel_rfl) (by kernel_rfl) (by kernel_rfl) (by kernel_rfl) (fun _ _ _ h => h) (Or.inl ⟨by rfl, ?hdy18x14⟩) hSd ?hdr18x14
      case hdy18x14 => (intro w' hSw; obtain ⟨e1, e2, e3⟩ := HCI.out w' hSw; go_simp; try with_reducible rfl)
      try simp only [Act.put, List.setIfInBounds_toArray, List.set_cons_zero, List.set_cons_succ, List.getElem_toArray, List.getElem_cons_zero, List.getElem_cons_succ]
      refine HeadG.one (i := 10) rfl (by kernel_rfl) (by kernel_rfl) (fun K9 hK9 => ?_)
      go_simp
      go_at_call 39
      with_reducible refine (HML.out _ hSd).mono ?_
      rintro e w9 ⟨rfl, rfl⟩
      refine hK9.out _ _ hSd ?_
      clear hK9 K9
      try simp only [Act.put, List.setIfInBounds_toArray, List.set_cons_zero, List.set_cons_succ, List.getElem_toArray, List.getElem_cons_zero, List.getElem_cons_succ]
      refine HeadG.one (i := 15) rfl (by kernel_rfl) (by kernel_rfl) (fun K9 hK9 => ?_)
      go_simp
      go_at_call 38
      with_reducible refine (HAD.out _ hSd).mono ?_
      rintro e w9 ⟨rfl, rfl⟩
      refine hK9.out _ _ hSd ?_
      clear hK9 K9
      try simp only [Act.put, List.setIfInBounds_toArray, List.set_cons_zero, List.set_cons_succ, List.getElem_toArray, List.getElem_cons_zero, List.getElem_cons_succ]
      refine HeadG.one (i := 16) rfl (by kernel_rfl) (by kernel_rfl) (fun K9 hK9 => ?_)
      go_simp
      refine hK9.out _ _ (hSd.alloc _) ?_
      clear hK9 K9
      try simp only [Act.put, List.setIfInBounds_toArray, List.set_cons_zero, List.set_cons_succ, List.getElem_toArray, List.getElem_cons_zero, List.getElem_cons_succ]
      refine HeadG.one (i := 17) rfl (by kernel_rfl) (by kernel_rfl) (fun K9 hK9 => ?_)
      refine step_append2 rfl (.tmp 52) (.tmp 68) _ _ rfl _ _ _ rfl rfl HR2.out ?_
      refine hK9.out _ _ HW2.out ?_
      clear hK9 K9
      try simp only [Act.put, List.setIfInBounds_toArray, List.set_cons_zero, List.set_cons_succ, List.getElem_toArray, List.getElem_cons_zero, List.getElem_cons_succ]
      refine HeadG.last (i := 18) rfl (by kernel_rfl) (by kernel_rfl) (by kernel_rfl) (fun K9 hK9 => ?_)
      go_simp
      refine hK9.out _ _ ?_
      clear hK9 K9
      try simp only [Act.put, List.setIfInBounds_toArray, List.set_cons_zero, List.set_cons_succ, List.getElem_toArray, List.getElem_cons_zero, List.getElem_cons_succ]
      clear hSd
      go_wp2
      go_roundw
      case rel => exact ⟨i + 1, a2, c2, by omega, by go_num, rfl, HO2, HW2⟩
      case measure => simp [intOf]; omega
    · obtain rfl : i = M := by omega
      have hxr := HOW.out
      rw [List.take_of_length_le (by rw [HNS.out]; exact Nat.le_refl _)] at hxr
      have HXS := Lib.hid (hxr.reads HBS.out)
      clear hxr HOW
      have HC : Hid (On u wr) := HO4.out.trans HON.out
      have HGA := Lib.hid (HGA.out.on HON.out); have HGB := Lib.hid (HGB.out.on HON.out)
      clear HK1 HTS HNS HBS
      obtain ⟨d1, d2, d3⟩ := HSB.out _ HC.out
      have hra := HGA.out.reads HAB.out (by rw [HAL.out]; omega) i
      rw [HAL.out] at hra
      have hrb := HGB.out.reads HBBb.out (by rw [HBL.out]; omega) i
      rw [HBL.out] at hrb
      have HRA2 := Lib.hid hra; have HRB2 := Lib.hid hrb
      clear hra hrb HGA HGB
      go_wp2_with fail
      with_reducible refine (HFA.out _ _ (HOU.out.trans HC.out) HRA2.out).mono ?_
      rintro e w5 ⟨R1, rfl, HR1, hO⟩
      have HC : Hid (On u w5) := HC.out.trans hO
      have HRB2 := Lib.hid (HRB2.out.on hO); have HXS := Lib.hid (HXS.out.on hO)
      clear hO d1 d2 d3
      obtain ⟨d1, d2, d3⟩ := HSB.out _ HC.out
      go_wp2_with fail
      with_reducible refine (HFB.out _ _ (HOU.out.trans HC.out) HRB2.out).mono ?_
      rintro e w6 ⟨R2, rfl, HR2, hO⟩
      have HC : Hid (On u w6) := HC.out.trans hO
      have HR1 := Lib.hid (HR1.out.on hO); have HXS := Lib.hid (HXS.out.on hO)
      clear hO d1 d2 d3
      obtain ⟨d1, d2, d3⟩ := HSB.out _ HC.out
      go_wp2_with fail
      with_reducible refine (HFS.out _ _ (HOU.out.trans HC.out) HXS.out).mono ?_
      rintro e w7 ⟨R3, rfl, HR3, hO⟩
      have HC : Hid (On u w7) := HC.out.trans hO
      have HR1 := Lib.hid (HR1.out.on hO); have HR2 := Lib.hid (HR2.out.on hO)
      clear hO d1 d2 d3 HFA HFB HFS HRA2 HRB2 HXS
      obtain ⟨g1, g2, g3⟩ := HWF.out
      go_upto_region 17 with fail
      try simp only [g1, g2, g3]
      have HK2 : Hid (∀ i w', i < m8 → On w7 w' → w'.cell? ⟨w1.heap.size, 0, none⟩ = some (.int .i64 X) ∧ w'.cell? ⟨R1, i, none⟩ = some (.int .u64 ((C.getD i 0 : Nat) : Int)) ∧ w'.cell? ⟨R2, i, none⟩ = some (.int .u64 ((D.getD i 0 : Nat) : Int))) := fun i w' hi hq => by
        refine ⟨(HSB.out _ (HC.out.trans hq)).1, ?_, ?_⟩
        · obtain ⟨b, o, e1, e2⟩ := (reads_opt (HCL.out ▸ HR1.out.on hq)).2 i (by rw [HCL.out]; exact hi)
          simp only [Option.some.injEq, Addr.mk.injEq] at e1
          obtain ⟨rfl, rfl, -⟩ := e1
          rw [Nat.zero_add] at e2
          exact e2
        · obtain ⟨b, o, e1, e2⟩ := (reads_opt (HDL.out ▸ HR2.out.on hq)).2 i (by rw [HDL.out]; exact hi)
          simp only [Option.some.injEq, Addr.mk.injEq] at e1
          obtain ⟨rfl, rfl, -⟩ := e1
          rw [Nat.zero_add] at e2
          exact e2
      clear hlt hi
      go_loopw [20, 28] (fun vx vi wr => ∃ (i : Nat) (ax : Option Addr) (cx : Nat), i ≤ m8 ∧ vi = .int .i64 (i : Int) ∧ vx = .slice ax i cx ∧ Hid (Ow w7.heap.size wr (.slice ax i cx) (T.take i)) ∧ Hid (On w7 wr)) (fun _ vi _ => m8 - (intOf vi).toNat)
      case atStart => exact ⟨0, none, 0, Nat.zero_le _, rfl, rfl, by unfold Hid; rw [List.take_zero]; exact Ow.nil _ _, On.refl HC.out.tab⟩
      case round =>
        rename World => wr
        obtain ⟨i, ax, cx, hi, rfl, rfl, HOW, HON⟩ := hrel
        by_cases hlt : i < m8
        · have hst := HTT.out i hlt
          have HCI : Hid (∀ w', On w7 w' → _) := fun w' h => HK2.out i w' hlt h
          have hab := HLC.out i
          have hbb := HLD.out i
          generalize C.getD i 0 = ai at *
          generalize D.getD i 0 = bi at *
          have hmb := mulF_le X ai m
          have hyb := addF_le X (mulF X ai m) bi
          have HML : Hid (∀ w', On w7 w' → Calls Tryd.prog 39 #[.int .i64 X, .int .u64 (ai : Int), .int .u64 (m : Int)] w' fun e w'' => e = .returned (.int .u64 ((mulF X ai m : Nat) : Int)) ∧ w' = w'') := fun w' h => mul_any X ai m w' h.tab hab hm
          have HAD : Hid (∀ w', On w7 w' → Calls Tryd.prog 38 #[.int .i64 X, .int .u64 ((mulF X ai m : Nat) : Int), .int .u64 (bi : Int)] w' fun e w'' => e = .returned (.int .u64 ((addF X (mulF X ai m) bi : Nat) : Int)) ∧ w' = w'') := fun w' h => add_any X (mulF X ai m) bi w' h.tab (by omega) hbb
          generalize mulF X ai m = mi at *
          generalize addF X mi bi = y at *
          have hml : (T.take i).length = i := by rw [List.length_take, HNT.out]; omega
          have HAP : Hid (∃ a c w2, (∀ ty, (Builtin.append_ #[33, 33] ty #[.slice ax i cx, .slice (some ⟨wr.drew.heap.size, 0, none⟩) 1 1]).run Tryd.prog (wr.drew.alloc (.cells #[.int .u64 (y : Int)] 22)) = .ok (.slice a (i + 1) c) w2) ∧ Ow w7.heap.size w2 (.slice a (i + 1) c) (T.take (i + 1)) ∧ On w7 w2) := by
            obtain ⟨v', w2, h1, h2, h3, h4⟩ := append_own w7.heap.size y _ rfl (T.take i) (.slice ax i cx) wr.drew wr.drew.heap.size rfl (HOW.out.drewN 1) HON.out.size (by rw [hml]; omega)
            rw [← hst] at h2
            obtain ⟨a, c, rfl⟩ := h2.shape
            have e : (T.take (i + 1)).length = i + 1 := by rw [List.length_take, HNT.out]; omega
            rw [e] at h1 h2
            exact ⟨a, c, w2, h1, h2, (HON.out.drew).grown (Nat.le_refl _) (HOW.out.drewN 1) h3⟩
          obtain ⟨a2, c2, w2, hr2, ho2, hw2⟩ := HAP.out
          have HR2 := Lib.hid hr2; have HO2 := Lib.hid ho2; have HW2 := Lib.hid hw2
          clear hr2 ho2 hw2 hst hml HAP
          go_upto_region 19 with fail
          refine region_head_tail (S := fun wq => On w7 wq) 18 (by kernel_rfl) (by kernel_rfl) ?_
          have hSd := HON.out.drew
          refine HeadG.take (i := 0) (v := ?hdv19x0) rfl (by kernel_rfl) (by kernel_rfl) (by kernel_rfl) (by kernel_rfl) (by kernel_rfl) (by kernel_rfl) (by kernel_rfl) (fun _ _ _ h => h) (Or.inl ⟨by rfl, ?hdy19x0⟩) hSd ?hdr19x0
          case hdy19x0 => (intro w' hSw; obtain ⟨e1, e2, e3⟩ := HCI.out w' hSw; go_simp; try with_reducible rfl)
          try simp only [Act.put, List.setIfInBounds_toArray, List.set_cons_zero, List.set_cons_succ, List.getElem_toArray, List.getElem_cons_zero, List.getElem_cons_succ]
          refine HeadG.take (i := 1) (v := ?hdv20x1) rfl (by kernel_rfl) (by kernel_rfl) (by kernel_rfl) (by kernel_rfl) (by kernel_rfl) (by kernel_rfl) (by kernel_rfl) (fun _ _ _ h => h) (Or.inl ⟨by rfl, ?hdy20x1⟩) hSd ?hdr20x1
          case hdy20x1 => (intro w' hSw; obtain ⟨e1, e2, e3⟩ := HCI.out w' hSw; go_simp; try with_reducible rfl)
          try simp only [Act.put, List.setIfInBounds_toArray, List.set_cons_zero, List.set_cons_succ, List.getElem_toArray, List.getElem_cons_zero, List.getElem_cons_succ]
          refine HeadG.take (i := 2) (v := ?hdv21x2) rfl (by kernel_rfl) (by kernel_rfl) (by kernel_rfl) (by kernel_rfl) (by kernel_rfl) (by kernel_rfl) (by kernel_rfl) (fun _ _ _ h => h) (Or.inl ⟨by rfl, ?hdy21x2⟩) hSd ?hdr21x2
          case hdy21x2 => (intro w' hSw; obtain ⟨e1, e2, e3⟩ := HCI.out w' hSw; go_simp; try with_reducible rfl)
          try simp only [Act.put, List.setIfInBounds_toArray, List.set_cons_zero, List.set_cons_succ, List.getElem_toArray, List.getElem_cons_zero, List.getElem_cons_succ]
          refine HeadG.take (i := 3) (v := ?hdv22x3) rfl (by kernel_rfl) (by kernel_rfl) (by kernel_rfl) (by kernel_rfl) (by kernel_rfl) (by kernel_rfl) (by kernel_rfl) (fun _ _ _ h => h) (Or.inl ⟨by rfl, ?hdy22x3⟩) hSd ?hdr22x3
          case hdy22x3 => (intro w' hSw; obtain ⟨e1, e2, e3⟩ := HCI.out w' hSw; go_simp; try with_reducible rfl)
          try simp only [Act.put, List.setIfInBounds_toArray, List.set_cons_zero, List.set_cons_succ, List.getElem_toArray, List.getElem_cons_zero, List.getElem_cons_succ]
          refine HeadG.take (i := 4) (v := ?hdv23x4) rfl (by kernel_rfl) (by kernel_rfl) (by kernel_rfl) (by kernel_rfl) (by kernel_rfl) (by kernel_rfl) (by kernel_rfl) (fun _ _ _ h => h) (Or.inl ⟨by rfl, ?hdy23x4⟩) hSd ?hdr23x4
          case hdy23x4 => (intro w' hSw; obtain ⟨e1, e2, e3⟩ := HCI.out w' hSw; go_simp; try with_reducible rfl)
          try simp only [Act.put, List.setIfInBounds_toArray, List.set_cons_zero, List.set_cons_succ, List.getElem_toArray, List.getElem_cons_zero, List.getElem_cons_succ]
          refine HeadG.take (i := 5) (v := ?hdv24x5) rfl (by kernel_rfl) (by kernel_rfl) (by kernel_rfl) (by kernel_rfl) (by kernel_rfl) (by kernel_rfl) (by kernel_rfl) (fun _ _ _ h => h) (Or.inl ⟨by rfl, ?hdy24x5⟩) hSd ?hdr24x5
          case hdy24x5 => (intro w' hSw; obtain ⟨e1, e2, e3⟩ := HCI.out w' hSw; go_simp; try with_reducible rfl)
          try simp only [Act.put, List.setIfInBounds_toArray, List.set_cons_zero, List.set_cons_succ, List.getElem_toArray, List.getElem_cons_zero, List.getElem_cons_succ]
          refine HeadG.take (i := 6) (v := ?hdv25x6) rfl (by kernel_rfl) (by kernel_rfl) (by kernel_rfl) (by kernel_rfl) (by kernel_rfl) (by kernel_rfl) (by kernel_rfl) (fun _ _ _ h => h) (Or.inl ⟨by rfl, ?hdy25x6⟩) hSd ?hdr25x6
          case hdy25x6 => (intro w' hSw; obtain ⟨e1, e2, e3⟩ := HCI.out w' hSw; go_simp; try with_reducible rfl)
          try simp only [Act.put, List.setIfInBounds_toArray, List.set_cons_zero, List.set_cons_succ, List.getElem_toArray, List.getElem_cons_zero, List.getElem_cons_succ]
          refine HeadG.take (i := 7) (v := ?hdv26x7) rfl (by kernel_rfl) (by kernel_rfl) (by kernel_rfl) (by kernel_rfl) (by kernel_rfl) (by kernel_rfl) (by kernel_rfl) (fun _ _ _ h => h) (Or.inl ⟨by rfl, ?hdy26x7⟩) hSd ?hdr26x7
          case hdy26x7 => (intro w' hSw; obtain ⟨e1, e2, e3⟩ := HCI.out w' hSw; go_simp; try with_reducible rfl)
          try simp only [Act.put, List.setIfInBounds_toArray, List.set_cons_zero, List.set_cons_succ, List.getElem_toArray, List.getElem_cons_zero, List.getElem_cons_succ]
          refine HeadG.take (i := 8) (v := ?hdv27x8) rfl (by kernel_rfl) (by kernel_rfl) (by kernel_rfl) (by kernel_rfl) (by kernel_rfl) (by kernel_rfl) (by kernel_rfl) (fun _ _ _ h => h) (Or.inl ⟨by rfl, ?hdy27x8⟩) hSd ?hdr27x8
          case hdy27x8 => (intro w' hSw; obtain ⟨e1, e2, e3⟩ := HCI.out w' hSw; go_simp; try with_reducible rfl)
          try simp only [Act.put, List.setIfInBounds_toArray, List.set_cons_zero, List.set_cons_succ, List.getElem_toArray, List.getElem_cons_zero, List.getElem_cons_succ]
          refine HeadG.take (i := 9) (v := ?hdv28x9) rfl (by kernel_rfl) (by kernel_rfl) (by kernel_rfl) (by kernel_rfl) (by kernel_rfl) (by kernel_rfl) (by kernel_rfl) (fun _ _ _ h => h) (Or.inl ⟨by rfl, ?hdy28x9⟩) hSd ?hdr28x9
          case hdy28x9 => (intro w' hSw; obtain ⟨e1, e2, e3⟩ := HCI.out w' hSw; go_simp; try with_reducible rfl)
          try simp only [Act.put, List.setIfInBounds_toArray, List.set_cons_zero, List.set_cons_succ, List.getElem_toArray, List.getElem_cons_zero, List.getElem_cons_succ]
          refine HeadG.take (i := 11) (v := ?hdv29x11) rfl (by kernel_rfl) (by kernel_rfl) (by kernel_rfl) (by kernel_rfl) (by kernel_rfl) (by kernel_rfl) (by kernel_rfl) (fun _ _ _ h => h) (Or.inl ⟨by rfl, ?hdy29x11⟩) hSd ?hdr29x11
          case hdy29x11 => (intro w' hSw; obtain ⟨e1, e2, e3⟩ := HCI.out w' hSw; go_simp; try with_reducible rfl)
          try simp only [Act.put, List.setIfInBounds_toArray, List.set_cons_zero, List.set_cons_succ, List.getElem_toArray, List.getElem_cons_zero, List.getElem_cons_succ]
          refine HeadG.take (i := 12) (v := ?hdv30x12) rfl (by kernel_rfl) (by kernel_rfl) (by kernel_rfl) (by kernel_rfl) (by kernel_rfl) (by kernel_rfl) (by kernel_rfl) (fun _ _ _ h => h) (Or.inl ⟨by rfl, ?hdy30x12⟩) hSd ?hdr30x12
          case hdy30x12 => (intro w' hSw; obtain ⟨e1, e2, e3⟩ := HCI.out w' hSw; go_simp; try with_reducible rfl)
          try simp only [Act.put, List.setIfInBounds_toArray, List.set_cons_zero, List.set_cons_succ, List.getElem_toArray, List.getElem_cons_zero, List.getElem_cons_succ]
          refine HeadG.take (i := 13) (v := ?hdv31x13) rfl (by kernel_rfl) (by kernel_rfl) (by kernel_rfl) (by kernel_rfl) (by kernel_rfl) (by kernel_rfl) (by kernel_rfl) (fun _ _ _ h => h) (Or.inl ⟨by rfl, ?hdy31x13⟩) hSd ?hdr31x13
          case hdy31x13 => (intro w' hSw; obtain ⟨e1, e2, e3⟩ := HCI.out w' hSw; go_simp; try with_reducible rfl)
          try simp only [Act.put, List.setIfInBounds_toArray, List.set_cons_zero, List.set_cons_succ, List.getElem_toArray, List.getElem_cons_zero, List.getElem_cons_succ]
          refine HeadG.take (i := 14) (v := ?hdv32x14) rfl (by kernel_rfl) (by kernel_rfl) (by kernel_rfl) (by kernel_rfl) (by kernel_rfl) (by kernel_rfl) (by kernel_rfl) (fun _ _ _ h => h) (Or.inl ⟨by rfl, ?hdy32x14⟩) hSd ?hdr32x14
          case hdy32x14 => (intro w' hSw; obtain ⟨e1, e2, e3⟩ := HCI.out w' hSw; go_simp; try with_reducible rfl)
          try simp only [Act.put, List.setIfInBounds_toArray, List.set_cons_zero, List.set_cons_succ, List.getElem_toArray, List.getElem_cons_zero, List.getElem_cons_succ]
          refine HeadG.one (i := 10) rfl (by kernel_rfl) (by kernel_rfl) (fun K9 hK9 => ?_)
          go_simp
          go_at_call 39
          with_reducible refine (HML.out _ hSd).mono ?_
          rintro e w9 ⟨rfl, rfl⟩
          refine hK9.out _ _ hSd ?_
          clear hK9 K9
          try simp only [Act.put, List.setIfInBounds_toArray, List.set_cons_zero, List.set_cons_succ, List.getElem_toArray, List.getElem_cons_zero, List.getElem_cons_succ]
          refine HeadG.one (i := 15) rfl (by kernel_rfl) (by kernel_rfl) (fun K9 hK9 => ?_)
          go_simp
          go_at_call 38
          with_reducible refine (HAD.out _ hSd).mono ?_
          rintro e w9 ⟨rfl, rfl⟩
          refine hK9.out _ _ hSd ?_
          clear hK9 K9
          try simp only [Act.put, List.setIfInBounds_toArray, List.set_cons_zero, List.set_cons_succ, List.getElem_toArray, List.getElem_cons_zero, List.getElem_cons_succ]
          refine HeadG.one (i := 16) rfl (by kernel_rfl) (by kernel_rfl) (fun K9 hK9 => ?_)
          go_simp
          refine hK9.out _ _ (hSd.alloc _) ?_
          clear hK9 K9
          try simp only [Act.put, List.setIfInBounds_toArray, List.set_cons_zero, List.set_cons_succ, List.getElem_toArray, List.getElem_cons_zero, List.getElem_cons_succ]
          refine HeadG.one (i := 17) rfl (by kernel_rfl) (by kernel_rfl) (fun K9 hK9 => ?_)
          refine step_append2 rfl (.tmp 121) (.tmp 137) _ _ rfl _ _ _ rfl rfl HR2.out ?_
          refine hK9.out _ _ HW2.out ?_
          clear hK9 K9
          try simp only [Act.put, List.setIfInBounds_toArray, List.set_cons_zero, List.set_cons_succ, List.getElem_toArray, List.getElem_cons_zero, List.getElem_cons_succ]
          refine HeadG.last (i := 18) rfl (by kernel_rfl) (by kernel_rfl) (by kernel_rfl) (fun K9 hK9 => ?_)
          go_simp
          refine hK9.out _ _ ?_
          clear hK9 K9
          try simp only [Act.put, List.setIfInBounds_toArray, List.set_cons_zero, List.set_cons_succ, List.getElem_toArray, List.getElem_cons_zero, List.getElem_cons_succ]
          clear hSd
          go_wp2
          go_roundw
          case rel => exact ⟨i + 1, a2, c2, by omega, by go_num, rfl, HO2, HW2⟩
          case measure => simp [intOf]; omega
        · obtain rfl : i = m8 := by omega
          have hxr := HOW.out
          rw [List.take_of_length_le (by rw [HNT.out]; exact Nat.le_refl _)] at hxr
          have HXT := Lib.hid (hxr.reads HBT.out)
          clear hxr HOW
          have HR3 := Lib.hid (HR3.out.on HON.out)
          have HON := Lib.hid ((HOU.out.trans HC.out).trans HON.out)
          go_wp2_with fail
          with_reducible refine (HSM.out _ _ _ HON.out HR3.out HXT.out).mono ?_
          rintro e wb ⟨rfl, hOb⟩
          have HON := Lib.hid (HON.out.trans hOb)
          clear hOb
          go_wp2_with fail
          with_reducible refine (HWK.out _ HON.out).mono ?_
          rintro e we ⟨rfl, hOe⟩
          have HON := Lib.hid (HON.out.trans hOe)
          clear hOe
          go_wp2
          go_ret
          exact ⟨rfl, HON.out⟩
theorem linear_any (A0 K0 s0 : Nat) (la lb : List Nat) (m z : Nat) (va vb : Value) (w : World) (hT : Tab w) (hD : TabD w) (hA1 : A0 ≤ 255) (hK1 : K0 ≤ 255) (hs0 : s0 ≤ 18446744073709551615) (hm : m ≤ 18446744073709551615) (hz : z ≤ 18446744073709551615) (hRa : Reads w va la) (hRb : Reads w vb lb) :
    Calls Tryd.prog 6 #[.int .u8 (A0 : Int), .int .u8 (K0 : Int), .int .u64 (s0 : Int), va, vb, .int .u64 (m : Int), .int .u64 (z : Int)] w fun e w' => e = .returned (.bool true) ∧ On w w' :=
  linear_core ((A0 : Int) % 4) A0 K0 _ s0 _ m z la lb va vb w hT hD hA1 hK1 hs0 hm hz (by unfold validB; simp; omega) rfl rfl rfl hRa hRb
end Go.Proofs.YtiibcfajcndcnaaDoor

/- FoldLinear returns true, for every input; no conditions but the tied tables. -/
namespace Go.Proofs.YtiibcfajcndcnaaDoor.foldLinear
open Go.ChangeShapes Go.WideShapes Go.ChangeAt Go.RowKit
set_option linter.unusedVariables false

theorem trodAll_seven {H : Type} {enc : TypeId × Value → H} {P : Program} {w : World} {base : Nat} {spare : Nat → Bool} {held : Bool} {t0 t1 t2 t3 t4 t5 t6 : TypeId} {args : Array Value} {ds : List (DataW H)} {ps : List MemPlace} (h : DataW.TrodAll enc P w base spare held [t0, t1, t2, t3, t4, t5, t6] args.toList ds ps) :
    ∃ v0 v1 v2 v3 v4 v5 v6 d0 d1 d2 d3 d4 d5 d6 p0 p1 p2 p3 p4 p5 p6, args = #[v0, v1, v2, v3, v4, v5, v6] ∧ ds = [d0, d1, d2, d3, d4, d5, d6] ∧ ps = p0 ++ p1 ++ p2 ++ p3 ++ p4 ++ p5 ++ p6 ∧ DataW.Trod enc P w base spare held t0 v0 d0 p0 ∧ DataW.Trod enc P w base spare held t1 v1 d1 p1 ∧ DataW.Trod enc P w base spare held t2 v2 d2 p2 ∧ DataW.Trod enc P w base spare held t3 v3 d3 p3 ∧ DataW.Trod enc P w base spare held t4 v4 d4 p4 ∧ DataW.Trod enc P w base spare held t5 v5 d5 p5 ∧ DataW.Trod enc P w base spare held t6 v6 d6 p6 := by
  obtain ⟨v0, vs, d0, ds', p0, q, hargs, rfl, rfl, h0, h⟩ := trodAll_cons h
  obtain ⟨v1, vs, d1, ds', p1, q, rfl, rfl, rfl, h1, h⟩ := trodAll_cons h
  obtain ⟨v2, vs, d2, ds', p2, q, rfl, rfl, rfl, h2, h⟩ := trodAll_cons h
  obtain ⟨v3, vs, d3, ds', p3, q, rfl, rfl, rfl, h3, h⟩ := trodAll_cons h
  obtain ⟨v4, vs, d4, ds', p4, q, rfl, rfl, rfl, h4, h⟩ := trodAll_cons h
  obtain ⟨v5, vs, d5, ds', p5, q, rfl, rfl, rfl, h5, h⟩ := trodAll_cons h
  obtain ⟨v6, vs, d6, ds', p6, q, rfl, rfl, rfl, h6, h⟩ := trodAll_cons h
  obtain ⟨rfl, rfl, rfl⟩ := trodAll_nil h
  exact ⟨v0, v1, v2, v3, v4, v5, v6, d0, d1, d2, d3, d4, d5, d6, p0, p1, p2, p3, p4, p5, p6, by cases args; simp_all, rfl, by simp, h0, h1, h2, h3, h4, h5, h6⟩

set_option maxRecDepth 100000 in
theorem lifted (os : Os) (started : os.Started) (H : Type) (enc : TypeId × Value → H) :
    ReturnsInHanded {} Tryd.checked os 6 .any (fun w args => (Rows.foldLinearSpec.pre enc Tryd.prog Tryd.f6 Rows.foldLinearRow.domain false w args ∧ laidMetH Tryd.prog laidL w) ∧ sizedMet enc Tryd.prog Tryd.f6 (OpenSpec.ofChange Rows.foldLinearSpec) false w args)
      (Rows.foldLinearSpec.post enc Tryd.prog Tryd.f6 false true false false) := by
  refine returnsInHanded_of_change_and (C := Tryd.checked) (X := fun w _ => laidMetH Tryd.prog laidL w) (fun _ _ _ hh h => h.of_heap hh) own started (by kernel_rfl) Tryd.func6
    (ChangeSpec.witness_shaped (enc := enc) (C := Tryd.checked) (os := os) (X := fun w _ => laidMetH Tryd.prog laidL w) false (World.laidAll Tryd.prog os laidL) #[.int .u8 0, .int .u8 0, .int .u64 0, .slice none 0 0, .slice none 0 0, .int .u64 0, .int .u64 0] 8 (World.laidAll_os _ _ _)
      (World.shaped_of_ZipB (by kernel_rfl) (by kernel_rfl)) (by kernel_rfl) (by kernel_rfl) (by kernel_rfl)
      (by rw [MakeChecks.laidMetH_plain _ _ _ (by kernel_rfl)]; exact laidMet_laidAll _ (by kernel_rfl) (by kernel_rfl))) ?_
  intro W base args ds gs before hval0 hW hc _ hL _
  have hval : ∀ (j : Nat) t v, Tryd.f6.params[j]? = some t → args[j]? = some v → Value.okWide Tryd.prog W .any base t v := hval0
  have hW' := hW
  obtain ⟨p, q, hA0, hV, rfl, _, _⟩ := hW
  have hA : DataW.TrodAll enc Tryd.prog W 0 (fun _ => true) true Tryd.f6.params.toList args.toList ds p := hA0
  rw [Tryd.params6] at hA hval
  obtain ⟨v0, v1, v2, v3, v4, v5, v6, d0, d1, d2, d3, d4, d5, d6, p0, p1, p2, p3, p4, p5, p6, rfl, rfl, rfl, h0, h1, h2, h3, h4, h5, h6⟩ := trodAll_seven hA
  obtain ⟨rfl, rfl⟩ := trodVars_none hV
  obtain ⟨x0, rfl, rfl, rfl, wx0⟩ := open_int Tryd.underlying5 (hval 0 5 v0 rfl rfl) h0
  have b0 := bounds_u8 wx0
  obtain ⟨n0, rfl⟩ : ∃ n : Nat, x0 = n := ⟨x0.toNat, by omega⟩
  obtain ⟨x1, rfl, rfl, rfl, wx1⟩ := open_int Tryd.underlying5 (hval 1 5 v1 rfl rfl) h1
  have b1 := bounds_u8 wx1
  obtain ⟨n1, rfl⟩ : ∃ n : Nat, x1 = n := ⟨x1.toNat, by omega⟩
  obtain ⟨x2, rfl, rfl, rfl, wx2⟩ := open_int Tryd.underlying22 (hval 2 22 v2 rfl rfl) h2
  have b2 := bounds_u64 wx2
  obtain ⟨n2, rfl⟩ : ∃ n : Nat, x2 = n := ⟨x2.toNat, by omega⟩
  obtain ⟨l3, hR3, hz3⟩ := arg_list (hval 3 33 v3 rfl rfl) h3
  obtain ⟨l4, hR4, hz4⟩ := arg_list (hval 4 33 v4 rfl rfl) h4
  obtain ⟨x5, rfl, rfl, rfl, wx5⟩ := open_int Tryd.underlying22 (hval 5 22 v5 rfl rfl) h5
  have b5 := bounds_u64 wx5
  obtain ⟨n5, rfl⟩ : ∃ n : Nat, x5 = n := ⟨x5.toNat, by omega⟩
  obtain ⟨x6, rfl, rfl, rfl, wx6⟩ := open_int Tryd.underlying22 (hval 6 22 v6 rfl rfl) h6
  have b6 := bounds_u64 wx6
  obtain ⟨n6, rfl⟩ : ∃ n : Nat, x6 = n := ⟨x6.toNat, by omega⟩
  clear hA0 hval0
  simp only [List.append_nil] at hW'
  have hT := tab_of_laid hL
  have hD := tabd_of_laid hL
  have fin : Calls Tryd.prog 6 #[.int .u8 (n0 : Int), .int .u8 (n1 : Int), .int .u64 (n2 : Int), v3, v4, .int .u64 (n5 : Int), .int .u64 (n6 : Int)] W fun e w' => e = .returned (.bool true) ∧ On W w' := by
    exact linear_any n0 n1 n2 l3 l4 n5 n6 _ _ W hT hD (by omega) (by omega) (by omega) (by omega) (by omega) hR3 hR4
  refine fin.mono fun e W' ⟨he, hg⟩ => ?_
  subst he
  exact ⟨_, rfl, law_ends hW' rfl rfl rfl (by kernel_rfl) hg.2⟩

theorem row_holds : Rows.FoldLinearSaid :=
  OpenClaim.holds_of_wide 6 Tryd.f6 rfl rfl rfl rfl rfl rfl rfl ⟨rfl, rfl, rfl, rfl, rfl⟩ rfl rfl rfl rfl rfl (by kernel_rfl) Tryd.func6 (by kernel_rfl)
    (of_decide_eq_true (by kernel_rfl)) (by unfold Func.isWrapper; first | (rw [if_pos (by decide +kernel)]; kernel_rfl) | (rw [if_neg (by decide +kernel)]; exact ⟨rfl, rfl⟩))
    (fun os started H enc _ => lifted os started H enc)
theorem card_holds : Rows.FoldLinearCardSaid :=
  Claim7.holds_tied_plain_at .later [] [.data, .data, .data] true Rows.foldLinearCard.stood.harness false row_holds (fun _ h => by cases h) (by kernel_rfl) (fun _ h => by cases h) foldLinear_row_tie rfl ⟨rfl, rfl⟩ (by kernel_rfl) rfl
    (fun f fn hf hfn => by
      obtain rfl : f = 6 := Option.some.inj ((show Tryd.prog.funcNamed "attestor/attestorlaw09.FoldLinear" = some 6 by kernel_rfl).symm.trans hf) |>.symm
      obtain rfl : fn = Tryd.f6 := (Option.some.inj (Tryd.func6.symm.trans hfn)).symm
      exact ⟨by kernel_rfl, fun j t ht => by
        rw [Tryd.params6] at ht
        have hm : t ∈ [5, 5, 22, 33, 33, 22, 22] := by simpa using Array.mem_of_getElem? ht
        have hall : ([5, 5, 22, 33, 33, 22, 22].all fun u => !Tryd.prog.wantsStandIn u) = true := by kernel_rfl
        exact (show Tryd.prog.wantsStandIn t = false by simpa using List.all_eq_true.1 hall t hm)⟩)
    (by kernel_rfl)
#print axioms card_holds
end Go.Proofs.YtiibcfajcndcnaaDoor.foldLinear
