/- Package tree: isOpening, Climb: what each call returns. -/
import Derived.Test.YtnmfneeojnmebaaDoorYw2
import Derived.Deep.RegionWith
import Derived.Test.YtnmfneeojnmebaaDoorYkeep
namespace Go.Proofs.YtnmfneeojnmebaaDoor
open Go.RowKit
set_option linter.unusedVariables false

/-- An opening that can be climbed from. -/
def opnB (f i : Int) (x : Dg) (p : List Dg) : Bool := validB f && (decide (0 ≤ i) && (decide (p.length ≤ 18) && (okD f x && okA f p)))
theorem one_dg (w : World) (hT : Tab w) (x : Dg) (hx : SmD x) : DR (w.alloc (.cells #[.int .u64 ((x.1 : Nat) : Int), .int .u64 ((x.2 : Nat) : Int)] 36)) (.slice (some ⟨w.heap.size, 0, none⟩) 1 1) [x] :=
  (dbox_new w x 36).reads (by
    intro i hi
    have h0 : i = 0 := by simp at hi; omega
    subst h0; exact hx) (by simp) 1
set_option maxHeartbeats 1000000 in
set_option maxRecDepth 100000 in
theorem isOpening_any (f i : Int) (x : Dg) (p : List Dg) (v : Value) (w : World) (hT : Tab w) (hx : SmD x) (hR : DR w v p) :
    Calls Tryd.prog 51 #[.int .i64 f, .int .i64 i, dgV x, v] w fun e w' => e = .returned (.bool (opnB f i x p)) ∧ On w w' := by
  obtain ⟨a, cap, rfl⟩ := hR.shape
  have HT := Lib.hid hT
  have HR := Lib.hid hR
  obtain ⟨u, hu⟩ : ∃ u, u = w.alloc (.cells #[.int .u64 ((x.1 : Nat) : Int), .int .u64 ((x.2 : Nat) : Int)] 36) := ⟨_, rfl⟩
  have HU := Lib.hid hu
  have HO : Hid (On w u) := by refine Lib.hid ?_; rw [hu]; exact (On.refl hT).alloc _
  have HB : Hid (Blk w.heap.size u [x.1, x.2]) := by refine Lib.hid ?_; rw [hu]; exact blk_new2 w _ _ _
  have HP1 : Hid (Calls Tryd.prog 39 #[.int .i64 f, .slice (some ⟨u.heap.size, 0, none⟩) 1 1] (u.alloc (.cells #[.int .u64 ((x.1 : Nat) : Int), .int .u64 ((x.2 : Nat) : Int)] 36)) fun e w'' => e = .returned (.bool (okD f x)) ∧ On (u.alloc (.cells #[.int .u64 ((x.1 : Nat) : Int), .int .u64 ((x.2 : Nat) : Int)] 36)) w'') := by
    have h := proper_any f [x] _ _ ((On.refl HO.out.tab).alloc _).tab (one_dg u HO.out.tab x hx)
    have e : okA f [x] = okD f x := by unfold okA; simp
    rw [e] at h; exact h
  have HP2 : Hid (∀ w', On u w' → Calls Tryd.prog 39 #[.int .i64 f, .slice a p.length cap] w' fun e w'' => e = .returned (.bool (okA f p)) ∧ On w' w'') := fun w' h => proper_any f p _ w' h.tab ((HR.out.on HO.out).on h)
  have hL := hR.2.1
  obtain ⟨x0, x1⟩ := HB.out.cells2
  clear hT hR hx hu
  unfold opnB
  cases hv : validB f
  · have HV := Lib.hid hv; clear hv
    go_enter Tryd.func51, Tryd.ntmps51
    go_upto_region 1 with fail
    rw [← HU.out]
    go_wp2_with (first
      | (go_at_call 38; refine (valid_any _ _).mono ?_; rintro e w' ⟨rfl, rfl⟩; rw [HV.out]))
    go_ret
    exact ⟨rfl, HO.out⟩
  have HV := Lib.hid hv; clear hv
  by_cases hi : 0 ≤ i
  rotate_left
  · have hd : decide (0 ≤ i) = false := decide_eq_false hi
    have hi2 : i < 0 := by omega
    rw [hd]
    clear hd hi
    go_enter Tryd.func51, Tryd.ntmps51
    go_upto_region 1 with fail
    rw [← HU.out]
    go_wp2_with (first
      | (go_at_call 38; refine (valid_any _ _).mono ?_; rintro e w' ⟨rfl, rfl⟩; rw [HV.out]))
    go_ret
    exact ⟨rfl, HO.out⟩
  have hd : decide (0 ≤ i) = true := decide_eq_true hi
  rw [hd]
  clear hd
  by_cases hl : p.length ≤ 18
  rotate_left
  · have hd : decide (p.length ≤ 18) = false := decide_eq_false hl
    have hl2 : ¬ (p.length : Int) ≤ 18 := by omega
    rw [hd]
    clear hd hl
    go_enter Tryd.func51, Tryd.ntmps51
    go_upto_region 1 with fail
    rw [← HU.out]
    go_wp2_with (first
      | (go_at_call 38; refine (valid_any _ _).mono ?_; rintro e w' ⟨rfl, rfl⟩; rw [HV.out]))
    go_ret
    exact ⟨rfl, HO.out⟩
  have hd : decide (p.length ≤ 18) = true := decide_eq_true hl
  have hl2 : (p.length : Int) ≤ 18 := by omega
  rw [hd]
  clear hd hl
  cases hox : okD f x
  · rw [hox] at HP1; clear hox
    go_enter Tryd.func51, Tryd.ntmps51
    go_upto_region 1 with fail
    rw [← HU.out]
    go_wp2_with (first
      | (go_at_call 38; refine (valid_any _ _).mono ?_; rintro e w' ⟨rfl, rfl⟩; rw [HV.out])
      | (go_at_call 39; (with_reducible refine HP1.out.mono ?_); rintro e w1 ⟨rfl, hO1⟩; have HO1 : Hid (On u w1) := ((On.refl HO.out.tab).alloc _).trans hO1; clear hO1))
    go_ret
    exact ⟨rfl, HO.out.trans HO1.out⟩
  · rw [hox] at HP1; clear hox
    go_enter Tryd.func51, Tryd.ntmps51
    go_upto_region 1 with fail
    rw [← HU.out]
    go_wp2_with (first
      | (go_at_call 38; refine (valid_any _ _).mono ?_; rintro e w' ⟨rfl, rfl⟩; rw [HV.out])
      | (go_at_call 39; (with_reducible refine HP1.out.mono ?_); rintro e w1 ⟨rfl, hO1⟩; have HO1 : Hid (On u w1) := ((On.refl HO.out.tab).alloc _).trans hO1; clear hO1)
      | (go_at_call 39; (with_reducible refine (HP2.out _ HO1.out).mono ?_); rintro e w2 ⟨rfl, hO2⟩; have HO2 : Hid (On u w2) := HO1.out.trans hO2; clear hO2))
    go_ret
    exact ⟨by simp, HO.out.trans HO2.out⟩

theorem box2d_z {w : World} (hT : Tab w) (x : Dg) : ∃ W0, W0 = (w.alloc (.cells #[.int .u64 ((x.1 : Nat) : Int), .int .u64 ((x.2 : Nat) : Int)] 36)).alloc (.cells #[.int .u64 0, .int .u64 0] 36) ∧
    Blk w.heap.size W0 [x.1, x.2] ∧ Blk (w.heap.size + 1) W0 [0, 0] ∧ On w W0 := by
  refine ⟨_, rfl, ?_, ?_, ?_⟩
  · exact (blk_new2 w x.1 x.2 _).on ((On.refl ((On.refl hT).alloc _).tab).alloc _)
  · have := blk_new2 (w.alloc (.cells #[.int .u64 ((x.1 : Nat) : Int), .int .u64 ((x.2 : Nat) : Int)] 36)) 0 0 36
    simpa using this
  · exact ((On.refl hT).alloc _).alloc _
set_option maxHeartbeats 1000000 in
set_option maxRecDepth 100000 in
theorem climb_no (f i : Int) (x : Dg) (p : List Dg) (v : Value) (w : World) (hT : Tab w) (hx : SmD x) (hR : DR w v p) (hno : opnB f i x p = false) :
    Calls Tryd.prog 27 #[.int .i64 f, .int .i64 i, dgV x, v] w fun e w' => e = .returned (dgV zD) ∧ On w w' := by
  obtain ⟨a, cap, rfl⟩ := hR.shape
  obtain ⟨u, hu, hB⟩ := box2d_z hT x
  have HU := Lib.hid hu
  have HB := Lib.hid hB
  have HIO : Hid (Calls Tryd.prog 51 #[.int .i64 f, .int .i64 i, dgV x, .slice a p.length cap] u fun e w' => e = .returned (.bool false) ∧ On u w') := by
    have h := isOpening_any f i x p _ u hB.2.2.tab hx (hR.on hB.2.2)
    rw [hno] at h; exact h
  obtain ⟨x0, x1⟩ := HB.out.1.cells2
  clear hu hB hT hx hR hno
  go_enter Tryd.func27, Tryd.ntmps27
  go_upto_region 1 with fail
  rw [← HU.out]
  go_wp2_with fail
  with_reducible refine HIO.out.mono ?_
  rintro e w1 ⟨rfl, hO1⟩
  have HR1 := Lib.hid (HB.out.2.1.on hO1)
  have HO1 := Lib.hid (HB.out.2.2.trans hO1)
  clear hO1 x0 x1
  obtain ⟨r0, r1⟩ := HR1.out.cells2
  have f0 := HR1.out.free 0
  have f1 := HR1.out.free 1
  have HP := Lib.hid HR1.out.zero2
  go_wp2
  obtain ⟨p0, p1⟩ := HP.out
  refine bodyPost_ret (v := .agg #[.int .u64 0, .int .u64 0]) (by simp [results, Tryd.results27, go_sem, p0, p1]; try rfl) rfl ?_
  exact ⟨rfl, HO1.out.store2 (by omega) _ _⟩

theorem opnB_parts {f i : Int} {x : Dg} {p : List Dg} (h : opnB f i x p = true) : validB f = true ∧ p.length ≤ 18 ∧ okD f x = true ∧ okA f p = true := by
  unfold opnB at h
  simp only [Bool.and_eq_true, decide_eq_true_eq] at h
  exact ⟨h.1, h.2.2.1, h.2.2.2.1, h.2.2.2.2⟩
set_option maxHeartbeats 1000000 in
set_option maxRecDepth 100000 in
theorem climb_yes (f : Int) (i : Nat) (x : Dg) (p : List Dg) (v : Value) (w : World) (hT : Tab w) (hR : DR w v p) (hi : i ≤ 9223372036854775807) (hyes : opnB f (i : Int) x p = true) :
    Calls Tryd.prog 27 #[.int .i64 f, .int .i64 (i : Int), dgV x, v] w fun e w' => e = .returned (dgV (clF f i x p p.length)) ∧ On w w' := by
  obtain ⟨a, cap, rfl⟩ := hR.shape
  obtain ⟨hv, hpl, hx, hpo⟩ := opnB_parts hyes
  have hxs := okD_sm hx
  obtain ⟨u, hu, hB⟩ := box2d_z hT x
  have HU := Lib.hid hu
  have HB := Lib.hid hB
  have HIO : Hid (Calls Tryd.prog 51 #[.int .i64 f, .int .i64 (i : Int), dgV x, .slice a p.length cap] u fun e w' => e = .returned (.bool true) ∧ On u w') := by
    have h := isOpening_any f i x p _ u hB.2.2.tab hxs (hR.on hB.2.2)
    rw [hyes] at h; exact h
  have HR := Lib.hid (hR.on hB.2.2)
  obtain ⟨x0, x1⟩ := HB.out.1.cells2
  clear hu hB hT hR hyes
  go_enter Tryd.func27, Tryd.ntmps27
  go_upto_region 1 with fail
  rw [← HU.out]
  go_wp2_with fail
  with_reducible refine HIO.out.mono ?_
  rintro e w1 ⟨rfl, hO1⟩
  have HR1 := Lib.hid (HB.out.2.1.on hO1)
  have HL1 := Lib.hid (HB.out.1.on hO1)
  have HP1 := Lib.hid (HR.out.on hO1)
  have HO1 := Lib.hid (HB.out.2.2.trans hO1)
  clear hO1 x0 x1 HIO HR HB HU
  obtain ⟨x0, x1⟩ := HL1.out.cells2
  go_upto_region 3 with fail
  refine region_head_tail (S := fun wq => On w1 wq) 7 (by kernel_rfl) (by kernel_rfl) ?_
  have hSd : On w1 w1.drew := (On.refl HO1.out.tab).drew
  refine HeadG.take (i := 0) (v := ?hdv1x0) rfl (by kernel_rfl) (by kernel_rfl) (by kernel_rfl) (by kernel_rfl) (by kernel_rfl) (by kernel_rfl) (by kernel_rfl) (fun _ _ _ h => h) (Or.inl ⟨by rfl, ?hdy1x0⟩) hSd ?hdr1x0
  case hdy1x0 => (intro w' hSw; obtain ⟨x0, x1⟩ := (HL1.out.on hSw).cells2; go_simp; try with_reducible rfl)
  try simp only [Act.put, List.setIfInBounds_toArray, List.set_cons_zero, List.set_cons_succ]
  refine HeadG.take (i := 1) (v := ?hdv2x1) rfl (by kernel_rfl) (by kernel_rfl) (by kernel_rfl) (by kernel_rfl) (by kernel_rfl) (by kernel_rfl) (by kernel_rfl) (fun _ _ _ h => h) (Or.inl ⟨by rfl, ?hdy2x1⟩) hSd ?hdr2x1
  case hdy2x1 => (intro w' hSw; obtain ⟨x0, x1⟩ := (HL1.out.on hSw).cells2; go_simp; try with_reducible rfl)
  try simp only [Act.put, List.setIfInBounds_toArray, List.set_cons_zero, List.set_cons_succ]
  refine HeadG.take (i := 2) (v := ?hdv3x2) rfl (by kernel_rfl) (by kernel_rfl) (by kernel_rfl) (by kernel_rfl) (by kernel_rfl) (by kernel_rfl) (by kernel_rfl) (fun _ _ _ h => h) (Or.inl ⟨by rfl, ?hdy3x2⟩) hSd ?hdr3x2
  case hdy3x2 => (intro w' hSw; obtain ⟨x0, x1⟩ := (HL1.out.on hSw).cells2; go_simp; try with_reducible rfl)
  try simp only [Act.put, List.setIfInBounds_toArray, List.set_cons_zero, List.set_cons_succ]
  refine HeadG.take (i := 4) (v := ?hdv4x4) rfl (by kernel_rfl) (by kernel_rfl) (by kernel_rfl) (by kernel_rfl) (by kernel_rfl) (by kernel_rfl) (by kernel_rfl) (fun _ _ _ h => h) (Or.inl ⟨by rfl, ?hdy4x4⟩) hSd ?hdr4x4
  case hdy4x4 => (intro w' hSw; obtain ⟨x0, x1⟩ := (HL1.out.on hSw).cells2; go_simp; try with_reducible rfl)
  try simp only [Act.put, List.setIfInBounds_toArray, List.set_cons_zero, List.set_cons_succ]
  refine HeadG.fork2 (i := 3) (j := 5) rfl rfl (by kernel_rfl) (by kernel_rfl) (by kernel_rfl) (fun K9 hK9 => ?_) (fun K9 hK9 => ?_)
  · go_simp
    go_at_call 52
    refine (climber_any _ _ _ _).mono ?_
    rintro e w' ⟨rfl, rfl⟩
    refine hK9.out _ _ ((((On.refl HO1.out.tab).drew.alloc _).alloc _).alloc _) ?_
    clear hK9 K9
    try simp only [Act.put, List.setIfInBounds_toArray, List.set_cons_zero, List.set_cons_succ]
    refine HeadG.one (i := 5) rfl (by kernel_rfl) (by kernel_rfl) (fun K9 hK9 => ?_)
    go_simp
    refine hK9.out _ _ (((((On.refl HO1.out.tab).drew.alloc _).alloc _).alloc _).alloc _) ?_
    clear hK9 K9
    try simp only [Act.put, List.setIfInBounds_toArray, List.set_cons_zero, List.set_cons_succ]
    refine HeadG.one (i := 6) rfl (by kernel_rfl) (by kernel_rfl) (fun K9 hK9 => ?_)
    go_simp
    refine hK9.out _ _ (((((On.refl HO1.out.tab).drew.alloc _).alloc _).alloc _).alloc _) ?_
    clear hK9 K9
    try simp only [Act.put, List.setIfInBounds_toArray, List.set_cons_zero, List.set_cons_succ]
    refine HeadG.last (i := 7) rfl (by kernel_rfl) (by kernel_rfl) (by kernel_rfl) (fun K9 hK9 => ?_)
    go_simp
    refine hK9.out _ _ ?_
    clear hK9 K9
    try simp only [Act.put, List.setIfInBounds_toArray, List.set_cons_zero, List.set_cons_succ]
    have HOa : Hid (On w1 (((((w1.alloc (.cells #[.int .i64 f] 3)).alloc (.cells #[.int .i64 (i : Int)] 3)).alloc (.cells #[.int .u64 ((x.1 : Nat) : Int), .int .u64 ((x.2 : Nat) : Int)] 36)).alloc (.cells #[.int .u64 ((x.1 : Nat) : Int), .int .u64 ((x.2 : Nat) : Int)] 36)).drew)) := ((((On.refl HO1.out.tab).alloc _).alloc _).alloc _).alloc _ |>.drew
    have HCa : Hid (Cb (w1.heap.size + 1 + 1) (w1.heap.size + 1) w1.heap.size f i x (((((w1.alloc (.cells #[.int .i64 f] 3)).alloc (.cells #[.int .i64 (i : Int)] 3)).alloc (.cells #[.int .u64 ((x.1 : Nat) : Int), .int .u64 ((x.2 : Nat) : Int)] 36)).alloc (.cells #[.int .u64 ((x.1 : Nat) : Int), .int .u64 ((x.2 : Nat) : Int)] 36)).drew)) := ((cb_new f i x w1 _ rfl).on ((On.refl ((((On.refl HO1.out.tab).alloc _).alloc _).alloc _).tab).alloc (.cells #[.int .u64 ((x.1 : Nat) : Int), .int .u64 ((x.2 : Nat) : Int)] 36))).on (On.refl (((((On.refl HO1.out.tab).alloc _).alloc _).alloc _).alloc _).tab).drew
    have HTa : Hid (Blk (w1.heap.size + 1 + 1 + 1) (((((w1.alloc (.cells #[.int .i64 f] 3)).alloc (.cells #[.int .i64 (i : Int)] 3)).alloc (.cells #[.int .u64 ((x.1 : Nat) : Int), .int .u64 ((x.2 : Nat) : Int)] 36)).alloc (.cells #[.int .u64 ((x.1 : Nat) : Int), .int .u64 ((x.2 : Nat) : Int)] 36)).drew) [x.1, x.2]) := by have h := blk_new2 (((w1.alloc (.cells #[.int .i64 f] 3)).alloc (.cells #[.int .i64 (i : Int)] 3)).alloc (.cells #[.int .u64 ((x.1 : Nat) : Int), .int .u64 ((x.2 : Nat) : Int)] 36)) x.1 x.2 36; have h2 : Blk (w1.heap.size + 1 + 1 + 1) ((((w1.alloc (.cells #[.int .i64 f] 3)).alloc (.cells #[.int .i64 (i : Int)] 3)).alloc (.cells #[.int .u64 ((x.1 : Nat) : Int), .int .u64 ((x.2 : Nat) : Int)] 36)).alloc (.cells #[.int .u64 ((x.1 : Nat) : Int), .int .u64 ((x.2 : Nat) : Int)] 36)) [x.1, x.2] := (by simpa using h); exact h2.drewN 1
    generalize hu2 : (((((w1.alloc (.cells #[.int .i64 f] 3)).alloc (.cells #[.int .i64 (i : Int)] 3)).alloc (.cells #[.int .u64 ((x.1 : Nat) : Int), .int .u64 ((x.2 : Nat) : Int)] 36)).alloc (.cells #[.int .u64 ((x.1 : Nat) : Int), .int .u64 ((x.2 : Nat) : Int)] 36)).drew) = u2 at *
    clear hu2
    obtain ⟨T, hT⟩ : ∃ T, T = w1.heap.size + 1 + 1 + 1 := ⟨_, rfl⟩
    obtain ⟨X, hX⟩ : ∃ X, X = w1.heap.size + 1 + 1 := ⟨_, rfl⟩
    obtain ⟨I, hI⟩ : ∃ I, I = w1.heap.size + 1 := ⟨_, rfl⟩
    obtain ⟨F, hF⟩ : ∃ F, F = w1.heap.size := ⟨_, rfl⟩
    have hTX : T ≠ X := by omega
    have hTI : T ≠ I := by omega
    have hTF : T ≠ F := by omega
    have hX0 : w1.heap.size ≤ X := by omega
    have hI0 : w1.heap.size ≤ I := by omega
    have hT0 : w1.heap.size ≤ T := by omega
    rw [← hT] at HTa ⊢
    rw [← hX] at HCa ⊢
    rw [← hI] at HCa ⊢
    have HF := Lib.hid hF
    rw [← hF] at ⊢ HCa
    clear hT hX hI hF
    have h0 : 0 < w1.heap.size := HO1.out.tab.size
    clear hSd x0 x1 HL1
    go_wp2_with fail
    go_loopw [27] (fun vi wr => ∃ k : Nat, k ≤ p.length ∧ vi = .int .i64 (k : Int) ∧ Hid (Cb X I F f (i / 2 ^ k) (clF f i x p k) wr) ∧ Hid (Blk T wr [(clF f i x p k).1, (clF f i x p k).2]) ∧ Hid (On w1 wr)) (fun vi _ => p.length - (intOf vi).toNat)
    case atStart => exact ⟨0, Nat.zero_le _, rfl, by rw [Nat.pow_zero, Nat.div_one]; exact HCa, HTa, HOa⟩
    case round =>
      obtain ⟨k, hk, rfl, HC, HB, HO⟩ := hrel
      by_cases hlt : k < p.length
      · have hlt' : (k : Int) < (p.length : Int) := by omega
        obtain ⟨b, off, rfl, c0, c1⟩ := HP1.out.cells k hlt
        have c0' := (HO.out.cell (p := ⟨b, off + k * 2, none⟩) (cell_size c0)).trans c0
        have c1' := (HO.out.cell (p := ⟨b, off + k * 2 + 1, none⟩) (cell_size c1)).trans c1
        have hps := HP1.out.sm k
        have hcs := clF_sm f i x p hxs k
        have HN : Hid (nodeF f (prD (i / 2 ^ k) (clF f i x p k) (p.getD k zD)).1 (prD (i / 2 ^ k) (clF f i x p k) (p.getD k zD)).2 = clF f i x p (k + 1)) := rfl
        have HI2 : Hid (i / 2 ^ k / 2 = i / 2 ^ (k + 1)) := by refine Lib.hid ?_; rw [Nat.pow_succ, Nat.div_div_eq_div_mul]
        have hik : i / 2 ^ k ≤ 9223372036854775807 := Nat.le_trans (Nat.div_le_self _ _) hi
        clear c0 c1
        generalize hy : clF f i x p (k + 1) = y at *
        have HY := Lib.hid hy
        clear hy
        generalize clF f i x p k = xk at *
        generalize p.getD k zD = pk at *
        have HOa' : Hid (On wr (wr.alloc (.cells #[.int .u64 ((pk.1 : Nat) : Int), .int .u64 ((pk.2 : Nat) : Int)] 36))) := (On.refl HO.out.tab).alloc _
        have HCL := Lib.hid (climb1_any X I F f (i / 2 ^ k) xk pk _ HOa'.out.tab (HC.out.on HOa'.out) hcs hps hik (by omega) (by omega))
        rw [HN.out, HI2.out] at HCL
        have HOb := Lib.hid (HO.out.trans HOa'.out)
        have HBb := Lib.hid (HB.out.on HOa'.out)
        clear HC HB HO HOa'
        go_upto_region 7 with fail
        go_wp2_with (go_at_call 64; (with_reducible refine HCL.out.mono ?_); rintro e w3 ⟨rfl, hC3, hK3⟩; have HC3 := Lib.hid hC3; have HO3 := Lib.hid (HOb.out.k2 hX0 hI0 hK3); have HB3 := Lib.hid (HBb.out.k2 hK3 hTX hTI); clear hC3 hK3; obtain ⟨b0, b1⟩ := HB3.out.cells2; have e0 := HB3.out.free 0; have e1 := HB3.out.free 1)
        have HB4 := Lib.hid (HB3.out.store2 y.1 y.2)
        have HC4 := Lib.hid (HC3.out.ap (ap2 T w3 (.int .u64 ((y.1 : Nat) : Int)) (.int .u64 ((y.2 : Nat) : Int))) hTX.symm hTI.symm hTF.symm)
        have HO4 := Lib.hid (HO3.out.store2 hT0 (.int .u64 ((y.1 : Nat) : Int)) (.int .u64 ((y.2 : Nat) : Int)))
        rw [← HY.out] at HB4 HC4 HO4 ⊢
        go_roundw
        case rel => exact ⟨k + 1, by omega, by simp, HC4, HB4, HO4⟩
        case measure => simp [intOf]; omega
      · obtain rfl : k = p.length := by omega
        obtain ⟨b0, b1⟩ := HB.out.cells2
        have HRz := Lib.hid (HR1.out.on HO.out)
        have HOz := Lib.hid (HO1.out.trans HO.out)
        clear HC HB HO
        generalize hye : clF f i x p p.length = y at *
        have HYE := Lib.hid hye
        clear hye
        obtain ⟨r0, r1⟩ := HRz.out.cells2
        have f0 := HRz.out.free 0
        have f1 := HRz.out.free 1
        have HP := Lib.hid (Blk.cells2 (HRz.out.store2 y.1 y.2))
        go_wp2
        obtain ⟨p0, p1⟩ := HP.out
        refine bodyPost_ret (v := dgV y) (by simp [results, Tryd.results27, go_sem, p0, p1]; try rfl) rfl ?_
        exact ⟨by rw [HYE.out], HOz.out.store2 (by omega) _ _⟩
  · go_simp
    refine hK9.out _ _ ((On.refl HO1.out.tab).drew.alloc _) ?_
    clear hK9 K9
    try simp only [Act.put, List.setIfInBounds_toArray, List.set_cons_zero, List.set_cons_succ]
    refine HeadG.one (i := 3) rfl (by kernel_rfl) (by kernel_rfl) (fun K9 hK9 => ?_)
    go_simp
    go_at_call 52
    refine (climber_any _ _ _ _).mono ?_
    rintro e w' ⟨rfl, rfl⟩
    refine hK9.out _ _ (((((On.refl HO1.out.tab).drew.alloc _).alloc _).alloc _).alloc _) ?_
    clear hK9 K9
    try simp only [Act.put, List.setIfInBounds_toArray, List.set_cons_zero, List.set_cons_succ]
    refine HeadG.one (i := 6) rfl (by kernel_rfl) (by kernel_rfl) (fun K9 hK9 => ?_)
    go_simp
    refine hK9.out _ _ (((((On.refl HO1.out.tab).drew.alloc _).alloc _).alloc _).alloc _) ?_
    clear hK9 K9
    try simp only [Act.put, List.setIfInBounds_toArray, List.set_cons_zero, List.set_cons_succ]
    refine HeadG.last (i := 7) rfl (by kernel_rfl) (by kernel_rfl) (by kernel_rfl) (fun K9 hK9 => ?_)
    go_simp
    refine hK9.out _ _ ?_
    clear hK9 K9
    try simp only [Act.put, List.setIfInBounds_toArray, List.set_cons_zero, List.set_cons_succ]
    have HOa : Hid (On w1 (((((w1.alloc (.cells #[.int .u64 ((x.1 : Nat) : Int), .int .u64 ((x.2 : Nat) : Int)] 36)).alloc (.cells #[.int .i64 f] 3)).alloc (.cells #[.int .i64 (i : Int)] 3)).alloc (.cells #[.int .u64 ((x.1 : Nat) : Int), .int .u64 ((x.2 : Nat) : Int)] 36)).drew)) := ((((On.refl HO1.out.tab).alloc _).alloc _).alloc _).alloc _ |>.drew
    have HCa : Hid (Cb (w1.heap.size + 1 + 1 + 1) (w1.heap.size + 1 + 1) (w1.heap.size + 1) f i x (((((w1.alloc (.cells #[.int .u64 ((x.1 : Nat) : Int), .int .u64 ((x.2 : Nat) : Int)] 36)).alloc (.cells #[.int .i64 f] 3)).alloc (.cells #[.int .i64 (i : Int)] 3)).alloc (.cells #[.int .u64 ((x.1 : Nat) : Int), .int .u64 ((x.2 : Nat) : Int)] 36)).drew)) := (cb_new f i x (w1.alloc (.cells #[.int .u64 ((x.1 : Nat) : Int), .int .u64 ((x.2 : Nat) : Int)] 36)) (w1.heap.size + 1) (by simp)).on (On.refl (((((On.refl HO1.out.tab).alloc _).alloc _).alloc _).alloc _).tab).drew
    have HTa : Hid (Blk w1.heap.size (((((w1.alloc (.cells #[.int .u64 ((x.1 : Nat) : Int), .int .u64 ((x.2 : Nat) : Int)] 36)).alloc (.cells #[.int .i64 f] 3)).alloc (.cells #[.int .i64 (i : Int)] 3)).alloc (.cells #[.int .u64 ((x.1 : Nat) : Int), .int .u64 ((x.2 : Nat) : Int)] 36)).drew) [x.1, x.2]) := (blk_new2 w1 x.1 x.2 36).on ((((On.refl ((On.refl HO1.out.tab).alloc _).tab).alloc _).alloc _).alloc _ |>.drew)
    generalize hu2 : (((((w1.alloc (.cells #[.int .u64 ((x.1 : Nat) : Int), .int .u64 ((x.2 : Nat) : Int)] 36)).alloc (.cells #[.int .i64 f] 3)).alloc (.cells #[.int .i64 (i : Int)] 3)).alloc (.cells #[.int .u64 ((x.1 : Nat) : Int), .int .u64 ((x.2 : Nat) : Int)] 36)).drew) = u2 at *
    clear hu2
    obtain ⟨X, hX⟩ : ∃ X, X = w1.heap.size + 1 + 1 + 1 := ⟨_, rfl⟩
    obtain ⟨I, hI⟩ : ∃ I, I = w1.heap.size + 1 + 1 := ⟨_, rfl⟩
    obtain ⟨F, hF⟩ : ∃ F, F = w1.heap.size + 1 := ⟨_, rfl⟩
    obtain ⟨T, hT⟩ : ∃ T, T = w1.heap.size := ⟨_, rfl⟩
    have hTX : T ≠ X := by omega
    have hTI : T ≠ I := by omega
    have hTF : T ≠ F := by omega
    have hX0 : w1.heap.size ≤ X := by omega
    have hI0 : w1.heap.size ≤ I := by omega
    have hT0 : w1.heap.size ≤ T := by omega
    rw [← hX] at HCa ⊢
    rw [← hI] at HCa ⊢
    rw [← hF] at HCa ⊢
    rw [← hT] at HTa ⊢
    clear hT hX hI hF
    have h0 : 0 < w1.heap.size := HO1.out.tab.size
    clear hSd x0 x1 HL1
    go_wp2_with fail
    go_loopw [27] (fun vi wr => ∃ k : Nat, k ≤ p.length ∧ vi = .int .i64 (k : Int) ∧ Hid (Cb X I F f (i / 2 ^ k) (clF f i x p k) wr) ∧ Hid (Blk T wr [(clF f i x p k).1, (clF f i x p k).2]) ∧ Hid (On w1 wr)) (fun vi _ => p.length - (intOf vi).toNat)
    case atStart => exact ⟨0, Nat.zero_le _, rfl, by rw [Nat.pow_zero, Nat.div_one]; exact HCa, HTa, HOa⟩
    case round =>
      obtain ⟨k, hk, rfl, HC, HB, HO⟩ := hrel
      by_cases hlt : k < p.length
      · have hlt' : (k : Int) < (p.length : Int) := by omega
        obtain ⟨b, off, rfl, c0, c1⟩ := HP1.out.cells k hlt
        have c0' := (HO.out.cell (p := ⟨b, off + k * 2, none⟩) (cell_size c0)).trans c0
        have c1' := (HO.out.cell (p := ⟨b, off + k * 2 + 1, none⟩) (cell_size c1)).trans c1
        have hps := HP1.out.sm k
        have hcs := clF_sm f i x p hxs k
        have HN : Hid (nodeF f (prD (i / 2 ^ k) (clF f i x p k) (p.getD k zD)).1 (prD (i / 2 ^ k) (clF f i x p k) (p.getD k zD)).2 = clF f i x p (k + 1)) := rfl
        have HI2 : Hid (i / 2 ^ k / 2 = i / 2 ^ (k + 1)) := by refine Lib.hid ?_; rw [Nat.pow_succ, Nat.div_div_eq_div_mul]
        have hik : i / 2 ^ k ≤ 9223372036854775807 := Nat.le_trans (Nat.div_le_self _ _) hi
        clear c0 c1
        generalize hy : clF f i x p (k + 1) = y at *
        have HY := Lib.hid hy
        clear hy
        generalize clF f i x p k = xk at *
        generalize p.getD k zD = pk at *
        have HOa' : Hid (On wr (wr.alloc (.cells #[.int .u64 ((pk.1 : Nat) : Int), .int .u64 ((pk.2 : Nat) : Int)] 36))) := (On.refl HO.out.tab).alloc _
        have HCL := Lib.hid (climb1_any X I F f (i / 2 ^ k) xk pk _ HOa'.out.tab (HC.out.on HOa'.out) hcs hps hik (by omega) (by omega))
        rw [HN.out, HI2.out] at HCL
        have HOb := Lib.hid (HO.out.trans HOa'.out)
        have HBb := Lib.hid (HB.out.on HOa'.out)
        clear HC HB HO HOa'
        go_upto_region 7 with fail
        go_wp2_with (go_at_call 64; (with_reducible refine HCL.out.mono ?_); rintro e w3 ⟨rfl, hC3, hK3⟩; have HC3 := Lib.hid hC3; have HO3 := Lib.hid (HOb.out.k2 hX0 hI0 hK3); have HB3 := Lib.hid (HBb.out.k2 hK3 hTX hTI); clear hC3 hK3; obtain ⟨b0, b1⟩ := HB3.out.cells2; have e0 := HB3.out.free 0; have e1 := HB3.out.free 1)
        have HB4 := Lib.hid (HB3.out.store2 y.1 y.2)
        have HC4 := Lib.hid (HC3.out.ap (ap2 T w3 (.int .u64 ((y.1 : Nat) : Int)) (.int .u64 ((y.2 : Nat) : Int))) hTX.symm hTI.symm hTF.symm)
        have HO4 := Lib.hid (HO3.out.store2 hT0 (.int .u64 ((y.1 : Nat) : Int)) (.int .u64 ((y.2 : Nat) : Int)))
        rw [← HY.out] at HB4 HC4 HO4 ⊢
        go_roundw
        case rel => exact ⟨k + 1, by omega, by simp, HC4, HB4, HO4⟩
        case measure => simp [intOf]; omega
      · obtain rfl : k = p.length := by omega
        obtain ⟨b0, b1⟩ := HB.out.cells2
        have HRz := Lib.hid (HR1.out.on HO.out)
        have HOz := Lib.hid (HO1.out.trans HO.out)
        clear HC HB HO
        generalize hye : clF f i x p p.length = y at *
        have HYE := Lib.hid hye
        clear hye
        obtain ⟨r0, r1⟩ := HRz.out.cells2
        have f0 := HRz.out.free 0
        have f1 := HRz.out.free 1
        have HP := Lib.hid (Blk.cells2 (HRz.out.store2 y.1 y.2))
        go_wp2
        obtain ⟨p0, p1⟩ := HP.out
        refine bodyPost_ret (v := dgV y) (by simp [results, Tryd.results27, go_sem, p0, p1]; try rfl) rfl ?_
        exact ⟨by rw [HYE.out], HOz.out.store2 (by omega) _ _⟩
end Go.Proofs.YtnmfneeojnmebaaDoor
