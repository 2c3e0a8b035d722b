/- Package fold: Words: plain facts, and what each call returns. -/
import Derived.Test.YtiibcfajcndcnaaDoorKf12
import Derived.Test.YtiibcfajcndcnaaDoorKf15
import Derived.Test.YtiibcfajcndcnaaDoorKf05
import Derived.Test.YtiibcfajcndcnaaDoorKf09
import Derived.Test.YtiibcfajcndcnaaDoorKf10
/- Package fold: Words: plain facts, and what each call returns. -/
namespace Go.Proofs.YtiibcfajcndcnaaDoor
open Go.RowKit
set_option linter.unusedVariables false

/-- The shifts and the words of Words. -/
def wS (f : Int) (s : Nat) : Nat → Nat
  | 0 => s
  | t + 1 => nxS f (wS f s t)
def wV (f : Int) (K s : Nat) (v zs : List Nat) : Nat → List Nat
  | 0 => v.map (redF f)
  | t + 1 => fldL f (K - 3 * t) (wS f s t) (wV f K s v zs t) (zs.getD t 0)
theorem pow_ne {f : Int} (hv : validB f = true) (a : Nat) (ha : a % pOf f ≠ 0) (n : Nat) : powF f a n % pOf f ≠ 0 := by
  have hp := (valid_iff f).1 hv
  induction n with
  | zero => have := big f hv; rw [powF_pos _ _ _ hp, Nat.pow_zero, Nat.mod_mod, Nat.mod_eq_of_lt (by omega)]; omega
  | succ m ih =>
    have := prod_ne f _ _ hv ih ha
    rw [mulF_pos _ _ _ hp, Nat.mod_mod, powF_pos _ _ _ hp, Nat.mod_mul_mod, ← Nat.pow_succ] at this
    rw [powF_pos _ _ _ hp, Nat.mod_mod]; exact this
theorem nx_valid {f : Int} {K s : Nat} (hv : validD f K s = true) (h3 : 3 ≤ K) : validD f ((K - 3 : Nat) : Int) (nxS f s) = true := by
  obtain ⟨hvf, hkg, hk2, hs0, hsp, hsn, hsb⟩ := validD_nat hv
  have hp := (valid_iff f).1 hvf
  have h1 := pow_ne hvf s hsn 8
  have h2 : nxS f s < pOf f := by unfold nxS; rw [powF_pos _ _ _ hp]; exact Nat.mod_lt _ hp
  have h3 : nxS f s ≠ 0 := fun h => h1 (by rw [show powF f s 8 = nxS f s from rfl, h]; exact Nat.zero_mod _)
  unfold validD
  rw [hvf, decide_eq_true (show (0 : Int) ≤ ((K - 3 : Nat) : Int) by omega), decide_eq_true (show ((K - 3 : Nat) : Int) ≤ (grF f : Int) by omega), decide_eq_true h3, decide_eq_true h2]
  rfl
theorem wS_valid {f : Int} {K s : Nat} (hv : validD f K s = true) : ∀ t, 3 * t ≤ K → validD f ((K - 3 * t : Nat) : Int) (wS f s t) = true
  | 0, _ => hv
  | t + 1, h => by
    have h1 := nx_valid (wS_valid hv t (by omega)) (by omega)
    rw [show K - 3 * t - 3 = K - 3 * (t + 1) by omega] at h1
    exact h1
theorem pow_eighth {K : Nat} (h3 : 3 ≤ K) : 2 ^ K / 8 = 2 ^ (K - 3) := by
  have h2K : 2 ^ K = 8 * 2 ^ (K - 3) := by
    rw [show (8 : Nat) = 2 ^ 3 from rfl, ← Nat.pow_add]; congr 1; omega
  omega
theorem wV_len {f : Int} {K s : Nat} {v : List Nat} (zs : List Nat) (hl : v.length = 2 ^ K) : ∀ t, 3 * t ≤ K → (wV f K s v zs t).length = 2 ^ (K - 3 * t)
  | 0, _ => by simp [wV, hl]
  | t + 1, h => by
    show (fldL f (K - 3 * t) (wS f s t) (wV f K s v zs t) (zs.getD t 0)).length = _
    rw [fldL_len, pow_eighth (by omega), show K - 3 * t - 3 = K - 3 * (t + 1) by omega]
theorem wV_le (f : Int) (K s : Nat) (v zs : List Nat) (t : Nat) : ∀ x ∈ wV f K s v zs t, x ≤ 18446744073709551615 := by
  cases t with
  | zero =>
    intro x hx
    obtain ⟨y, _, rfl⟩ := List.mem_map.1 hx
    have := redF_le f y
    omega
  | succ t => exact fldL_le _ _ _ _ _
set_option maxRecDepth 100000 in
set_option maxHeartbeats 2000000 in
theorem words_arg (f k : Int) (s l cap : Nat) (a : Option Addr) (zv : Value) (w : World) (hT : Tab w) (hk : -9223372036854775808 ≤ k ∧ k ≤ 9223372036854775807) (hs : s ≤ 18446744073709551615) (hno : (validD f k s && decide (l = sizeD f k s)) = false) :
    Calls Tryd.prog 21 #[.agg #[.int .i64 f, .int .i64 k, .int .u64 (s : Int)], .slice a l cap, zv] w fun e w' => e = .returned (.tuple #[.slice none 0 0, .int .i64 1]) ∧ On w w' := by
  have hO0 := (On.refl hT).alloc (.cells #[.int .i64 f, .int .i64 k, .int .u64 (s : Int)] 24)
  have hS0 := dom_new w (.int .i64 f) (.int .i64 k) (.int .u64 (s : Int)) 24
  obtain ⟨u, hu⟩ : ∃ u, u = w.alloc (.cells #[.int .i64 f, .int .i64 k, .int .u64 (s : Int)] 24) := ⟨_, rfl⟩
  rw [← hu] at hO0 hS0
  have HON := Lib.hid (fison_any f k s l cap a u u (On.refl hO0.tab) hk hs)
  rw [hno] at HON
  have HU := Lib.hid hu; have HO0 := Lib.hid hO0
  obtain ⟨b1, b2, b3⟩ := hS0
  clear hu hO0 hno hk hT
  go_enter Tryd.func21, Tryd.ntmps21
  go_wp2_with fail
  rw [← HU.out]
  go_wp2_with (go_at_call 52; with_reducible refine HON.out.mono ?_; rintro e w1 ⟨rfl, hW1⟩; have HW1 := Lib.hid hW1; clear hW1)
  go_ret2
  exact ⟨rfl, HO0.out.trans HW1.out⟩
set_option maxRecDepth 100000 in
set_option maxHeartbeats 2000000 in
theorem words_few (f : Int) (K s cap m c : Nat) (a za : Option Addr) (w : World) (hT : Tab w) (hv : validD f K s = true) (hm : K / 3 < m) :
    Calls Tryd.prog 21 #[.agg #[.int .i64 f, .int .i64 (K : Int), .int .u64 (s : Int)], .slice a (2 ^ K) cap, .slice za m c] w fun e w' => e = .returned (.tuple #[.slice none 0 0, .int .i64 2]) ∧ On w w' := by
  obtain ⟨hvf, hkg, hk2, hs0, hsp, hsn, hsb⟩ := validD_nat hv
  have hple := pOf_le f
  have hg18 := grF_le f
  have hO0 := (On.refl hT).alloc (.cells #[.int .i64 f, .int .i64 (K : Int), .int .u64 (s : Int)] 24)
  have hS0 := dom_new w (.int .i64 f) (.int .i64 (K : Int)) (.int .u64 (s : Int)) 24
  obtain ⟨u, hu⟩ : ∃ u, u = w.alloc (.cells #[.int .i64 f, .int .i64 (K : Int), .int .u64 (s : Int)] 24) := ⟨_, rfl⟩
  rw [← hu] at hO0 hS0
  have HON := Lib.hid (fison_any f K s (2 ^ K) cap a u u (On.refl hO0.tab) (by omega) (by omega))
  rw [hv, sizeD_nat hv, decide_eq_true rfl] at HON
  have HRN : Hid (∀ w', Calls Tryd.prog 12 #[.int .i64 (K : Int)] w' fun e w'' => e = .returned (.int .i64 ((K / 3 : Nat) : Int)) ∧ w' = w'') := fun w' => by have h := rounds_any (K : Int) w' (by omega); rw [Int.toNat_natCast] at h; exact h
  have HS0 := Lib.hid hS0
  have HU := Lib.hid hu; have HO0 := Lib.hid hO0
  obtain ⟨b1, b2, b3⟩ := hS0
  generalize 2 ^ K = l at *
  generalize K / 3 = r at *
  have hd1 : decide ((r : Int) < (m : Int)) = true := decide_eq_true (by omega)
  clear hu hO0 hT hv hvf hkg hk2 hs0 hsp hsn hsb hple hg18
  go_enter Tryd.func21, Tryd.ntmps21
  go_wp2_with fail
  rw [← HU.out]
  go_wp2_with (first
    | (go_at_call 52; with_reducible refine HON.out.mono ?_; rintro e w1 ⟨rfl, hW1⟩; obtain ⟨d1, d2, d3⟩ := dom_on HS0.out hW1; have HW1 := Lib.hid hW1; clear hW1)
    | (go_at_call 12; with_reducible refine (HRN.out _).mono ?_; rintro e w2 ⟨rfl, rfl⟩)
    | fail)
  go_ret2
  exact ⟨rfl, HO0.out.trans HW1.out⟩
set_option maxRecDepth 100000 in
set_option maxHeartbeats 2000000 in
theorem words_yes (f : Int) (K s : Nat) (v zs : List Nat) (va zv : Value) (w : World) (hT : Tab w) (hD : TabD w) (hv : validD f K s = true) (hl : v.length = 2 ^ K) (hm : zs.length ≤ K / 3) (hR : Reads w va v) (hRz : Reads w zv zs) :
    Calls Tryd.prog 21 #[.agg #[.int .i64 f, .int .i64 (K : Int), .int .u64 (s : Int)], va, zv] w fun e w' => ∃ b c, e = .returned (.tuple #[.slice b (zs.length + 1) c, .int .i64 0]) ∧ WB (w.heap.size + 1) w' (.slice b (zs.length + 1) c) (zs.length + 1) (wV f K s v zs) ∧ On w w' := by
  obtain ⟨a, cap, rfl⟩ := hR.shape
  obtain ⟨za, zc, rfl⟩ := hRz.shape
  obtain ⟨hvf, hkg, hk2, hs0, hsp, hsn, hsb⟩ := validD_nat hv
  have hg18 := grF_le f
  have hple := pOf_le f
  have hK18 : 2 ^ K ≤ 262144 := pow_big hkg
  have hO0 := (On.refl hT).alloc (.cells #[.int .i64 f, .int .i64 (K : Int), .int .u64 (s : Int)] 24)
  have hV0 := vb_new w #[.int .i64 f, .int .i64 (K : Int), .int .u64 (s : Int)] 24
  obtain ⟨u, hu⟩ : ∃ u, u = w.alloc (.cells #[.int .i64 f, .int .i64 (K : Int), .int .u64 (s : Int)] 24) := ⟨_, rfl⟩
  have hszu : u.heap.size = w.heap.size + 1 := by rw [hu]; simp
  rw [← hu] at hO0 hV0
  have HV0 : Hid (VB w.heap.size u (dmL f K s)) := hV0
  have HON := Lib.hid (fison_any f K s v.length cap a u u (On.refl hO0.tab) (by omega) (by omega))
  rw [hv, sizeD_nat hv, hl, decide_eq_true rfl, ← hl] at HON
  have HRN : Hid (∀ w', Calls Tryd.prog 12 #[.int .i64 (K : Int)] w' fun e w'' => e = .returned (.int .i64 ((K / 3 : Nat) : Int)) ∧ w' = w'') := fun w' => by have h := rounds_any (K : Int) w' (by omega); rw [Int.toNat_natCast] at h; exact h
  have HRD := Lib.hid (fun (x : Nat) w' (hT' : Tab w') (hx : x ≤ 18446744073709551615) => reduce_any f x w' hT' hx)
  have HR := Lib.hid hR; have HRZ := Lib.hid hRz
  have HLE : Hid (∀ j, v.getD j 0 ≤ 18446744073709551615) := fun j => by
    rcases Nat.lt_or_ge j v.length with h | h
    · exact hR.1 _ (getD_mem v j h)
    · rw [getD_over h]; omega
  have HZE : Hid (∀ j, zs.getD j 0 ≤ 18446744073709551615) := fun j => by
    rcases Nat.lt_or_ge j zs.length with h | h
    · exact hRz.1 _ (getD_mem zs j h)
    · rw [getD_over h]; omega
  -- one step
  have HWD : Hid (∀ t, t < zs.length → ∀ R w', On w w' → Blk R w' (wV f K s v zs t) → Calls Tryd.prog 19 #[.agg #[.int .i64 f, .int .i64 ((K - 3 * t : Nat) : Int), .int .u64 ((wS f s t : Nat) : Int)], .slice (some ⟨R, 0, none⟩) (wV f K s v zs t).length (wV f K s v zs t).length, .int .u64 ((zs.getD t 0 : Nat) : Int)] w' fun e w'' => ∃ R2, w'.heap.size ≤ R2 ∧ e = .returned (.tuple #[.slice (some ⟨R2, 0, none⟩) (wV f K s v zs (t + 1)).length (wV f K s v zs (t + 1)).length, .int .i64 0]) ∧ Hid (Blk R2 w'' (wV f K s v zs (t + 1))) ∧ On w' w'') := fun t ht R w' h hb => by
    have h3t : 3 * t ≤ K := by omega
    have hlt := wV_len (f := f) (s := s) zs hl t h3t
    have hbig : 2 ^ (K - 3 * t) ≤ 262144 := Nat.le_trans (Nat.pow_le_pow_right (by omega) (by omega)) hK18
    have hl1 : (wV f K s v zs (t + 1)).length = 2 ^ (K - 3 * t) / 8 := by
      show (fldL f (K - 3 * t) (wS f s t) (wV f K s v zs t) (zs.getD t 0)).length = _
      rw [fldL_len]
    rw [hl1]
    exact fword_yes f (K - 3 * t) (wS f s t) (zs.getD t 0) (wV f K s v zs t) _ w' h.tab (hD.on h) (wS_valid hv t h3t) (by omega) hlt (HZE.out t) (hb.reads (wV_le _ _ _ _ _ _) (by omega) _)
  have HNX : Hid (∀ t, t < zs.length → ∀ w', Tab w' → Calls Tryd.prog 10 #[.agg #[.int .i64 f, .int .i64 ((K - 3 * t : Nat) : Int), .int .u64 ((wS f s t : Nat) : Int)]] w' fun e w'' => e = .returned (.tuple #[.agg #[.int .i64 f, .int .i64 ((K - 3 * (t + 1) : Nat) : Int), .int .u64 ((wS f s (t + 1) : Nat) : Int)], .int .i64 0]) ∧ On w' w'') := fun t ht w' h => by
    have h1 := next_yes f (K - 3 * t) (wS f s t) w' h (wS_valid hv t (by omega)) (by omega)
    rw [show K - 3 * t - 3 = K - 3 * (t + 1) by omega] at h1
    exact h1
  have HW0 : Hid (wV f K s v zs 0 = (List.range v.length).map fun i => redF f (v.getD i 0)) := by
    show v.map (redF f) = _
    refine list_ext (by simp) fun i hi => ?_
    rw [List.length_map] at hi
    rw [getD_range, if_pos hi, List.getD_eq_getElem?_getD, List.getElem?_map, List.getElem?_eq_getElem hi, List.getD_eq_getElem?_getD, List.getElem?_eq_getElem hi]
    rfl
  have HL0 : Hid ((wV f K s v zs 0).length = v.length) := by show (v.map (redF f)).length = _; simp
  have HD0 : Hid ((K - 3 * 0 : Nat) = K ∧ wS f s 0 = s) := ⟨rfl, rfl⟩
  have hzl : zs.length ≤ 6 := by omega
  have hd1 : decide (((K / 3 : Nat) : Int) < (zs.length : Int)) = false := decide_eq_false (by omega)
  have hdn : decide (K / 3 < zs.length) = false := decide_eq_false (by omega)
  have hrm : ¬ (K / 3 < zs.length) := by omega
  have hlb : v.length ≤ 262144 := by omega
  obtain ⟨b1, b2, b3⟩ := HV0.out.cells3
  have HU := Lib.hid hu; have HO0 := Lib.hid hO0; have HSZ := Lib.hid hszu
  generalize wV f K s v zs = WV at *
  generalize wS f s = WS at *
  clear hT hD hv hl hm hR hRz hvf hkg hk2 hs0 hsp hsn hsb hg18 hple hK18 hO0 hV0 hu hszu
  generalize K / 3 = r at *
  generalize hln : v.length = ln at *
  have HLV := Lib.hid hln; clear hln
  generalize hzn : zs.length = m at *
  have HZL := Lib.hid hzn; clear hzn
  go_enter Tryd.func21, Tryd.ntmps21
  go_wp2_with fail
  rw [← HU.out]
  go_wp2_with (first
    | (go_at_call 52; with_reducible refine HON.out.mono ?_; rintro e w1 ⟨rfl, hW1⟩; obtain ⟨d1, d2, d3⟩ := (HV0.out.on hW1).cells3; have hmk := make_run ln (by omega) w1; have HW1 := Lib.hid hW1; clear hW1)
    | (go_at_call 12; with_reducible refine (HRN.out _).mono ?_; rintro e w2 ⟨rfl, rfl⟩)
    | fail)
  try simp only [hd1, hdn]
  clear hmk b1 b2 b3 d1 d2 d3 hd1 hdn hrm HON HRN
  have HB0 := Lib.hid (blk_made w1 ln)
  have HV1 : Hid (VB w.heap.size (w1.alloc (.cells (madeCells #[.int .u64 0] ln) 22)) (dmL f K s) ∧ On u (w1.alloc (.cells (madeCells #[.int .u64 0] ln) 22))) := ⟨(HV0.out.on HW1.out).on ((On.refl HW1.out.tab).alloc _), HW1.out.alloc _⟩
  have HN1 : Hid (w.heap.size + 1 ≤ w1.heap.size) := by have h1 := HW1.out.size; have h2 := HSZ.out; unfold Hid; omega
  clear HW1 HV0
  go_loopw [29] (fun vi wr => ∃ (i : Nat) (o : List Nat), i ≤ ln ∧ vi = .int .i64 (i : Int) ∧ Hid (Upto (List.replicate ln 0) (fun i => redF f (v.getD i 0)) i o) ∧ Blk w1.heap.size wr o ∧ Hid (VB w.heap.size wr (dmL f K s) ∧ On u wr)) (fun vi _ => ln - (intOf vi).toNat)
  case atStart => exact ⟨0, _, Nat.zero_le _, rfl, Upto.zero _ _, HB0.out, HV1⟩
  case round =>
    obtain ⟨i, o, hi, rfl, HUP, hB, HV⟩ := hrel
    by_cases hlt : i < ln
    · have hiP : i < (List.replicate ln 0).length := by rw [List.length_replicate]; exact hlt
      have hio : i < o.length := by rw [HUP.out.1]; exact hiP
      have hcell := hB.cell i hio
      generalize o.getD i 0 = y0 at *
      have hfr := hB.free i
      have HUP2 := Lib.hid (HUP.out.step hiP)
      obtain ⟨-, hcA⟩ := reads_opt (HLV.out ▸ HR.out.on (HO0.out.trans HV.out.2))
      obtain ⟨bA, oA, rfl, hcellA⟩ := hcA i (by rw [HLV.out]; exact hlt)
      have hxb := HLE.out i
      have HRJ := Lib.hid (HRD.out (v.getD i 0) wr HV.out.2.tab hxb)
      generalize v.getD i 0 = x at *
      generalize redF f x = y at *
      have HB3 := Lib.hid (hB.set i y hio)
      have HV3 : Hid (VB w.heap.size (wr.setCell ⟨w1.heap.size, i, none⟩ (.int .u64 ((y : Nat) : Int))) (dmL f K s) ∧ On u (wr.setCell ⟨w1.heap.size, i, none⟩ (.int .u64 ((y : Nat) : Int)))) := ⟨HV.out.1.other _ (by have := HN1.out; simp; omega) _, HV.out.2.setCell (by have := HN1.out; have := HSZ.out; simp; omega) _⟩
      obtain ⟨d1, d2, d3⟩ := HV.out.1.cells3
      clear hB HUP hcA hio hiP hxb HV
      go_wp2_with (go_at_call 40; with_reducible refine HRJ.out.mono ?_; rintro e w2 ⟨rfl, rfl⟩)
      go_roundw
      case rel => exact ⟨i + 1, _, by omega, by go_num, HUP2, HB3.out, HV3⟩
      case measure => simp [intOf]; omega
    · obtain rfl : i = ln := by omega
      have HE : Hid (o = WV 0) := by
        have h := (show Upto (List.replicate i 0) (fun j => redF f (v.getD j 0)) (List.replicate i 0).length o by rw [List.length_replicate]; exact HUP.out).done
        rw [List.length_replicate] at h
        unfold Hid
        rw [h, HW0.out, ← HLV.out]
      have HB := Lib.hid (hB.eq HE.out)
      clear HUP hB hlt hi
      go_wp2_with fail
      have hWB := WB.new (w.heap.size + 1) wr w1.heap.size i WV (by have h1 := HV.out.2.size; have h2 := HSZ.out; omega) HN1.out (by rw [HL0.out]) HB.out wr.heap.size rfl
      have hOa : On w (wr.alloc (.cells #[.slice (some ⟨w1.heap.size, 0, none⟩) i i] 33)) := (HO0.out.trans HV.out.2).alloc _
      have hOb := (On.refl HV.out.2.tab).alloc (.cells #[.slice (some ⟨w1.heap.size, 0, none⟩) i i] 33)
      have HST : Hid (WB (w.heap.size + 1) (wr.alloc (.cells #[.slice (some ⟨w1.heap.size, 0, none⟩) i i] 33)) (.slice (some ⟨wr.heap.size, 0, none⟩) 1 1) 1 WV ∧ w.heap.size + 1 ≤ w1.heap.size ∧ Blk w1.heap.size (wr.alloc (.cells #[.slice (some ⟨w1.heap.size, 0, none⟩) i i] 33)) (WV 0) ∧ VB w.heap.size (wr.alloc (.cells #[.slice (some ⟨w1.heap.size, 0, none⟩) i i] 33)) (dmL f ((K - 3 * 0 : Nat) : Int) (WS 0)) ∧ (∀ h, (Value.slice (some ⟨wr.heap.size, 0, none⟩) 1 1).ownBlock = some h → w1.heap.size ≠ h) ∧ On w (wr.alloc (.cells #[.slice (some ⟨w1.heap.size, 0, none⟩) i i] 33))) :=
        ⟨hWB, HN1.out, HB.out.on hOb, by rw [HD0.out.2]; exact HV.out.1.on hOb, fun h e => by have := HB.out.1; simp [Value.ownBlock] at e; omega, hOa⟩
      clear hWB hOa hOb
      have HL00 := Lib.hid HL0.out
      generalize wr.alloc (.cells #[.slice (some ⟨w1.heap.size, 0, none⟩) i i] 33) = wa at *
      generalize wr.heap.size = G at *
      go_loopw [8, 11, 46] (fun v8 v11 vi wq => ∃ (t R : Nat) (b : Option Addr) (c : Nat), t ≤ m ∧ vi = .int .i64 (t : Int) ∧ v8 = .slice (some ⟨R, 0, none⟩) (WV t).length (WV t).length ∧ v11 = .slice b (t + 1) c ∧ Hid (WB (w.heap.size + 1) wq (.slice b (t + 1) c) (t + 1) WV ∧ w.heap.size + 1 ≤ R ∧ Blk R wq (WV t) ∧ VB w.heap.size wq (dmL f ((K - 3 * t : Nat) : Int) (WS t)) ∧ On w wq)) (fun _ _ vi _ => m - (intOf vi).toNat)
      case atStart => exact ⟨0, w1.heap.size, _, _, Nat.zero_le _, rfl, by rw [HL00.out], rfl, HST.out.1, HST.out.2.1, HST.out.2.2.1, HST.out.2.2.2.1, HST.out.2.2.2.2.2⟩
      case round =>
        rename World => wq
        obtain ⟨t, R, b, c, ht, rfl, rfl, rfl, HS⟩ := hrel
        by_cases hlt : t < m
        · obtain ⟨-, hcZ⟩ := reads_opt (HZL.out ▸ HRZ.out.on HS.out.2.2.2.2)
          obtain ⟨bZ, oZ, rfl, hcellZ⟩ := hcZ t (by rw [HZL.out]; exact hlt)
          have hzb := HZE.out t
          have HWDt := Lib.hid (HWD.out t hlt R wq HS.out.2.2.2.2 HS.out.2.2.1)
          have HNXt := Lib.hid (HNX.out t hlt)
          obtain ⟨d1, d2, d3⟩ := HS.out.2.2.2.1.cells3
          generalize zs.getD t 0 = z at *
          clear hcZ
          go_wp2_with fail
          with_reducible refine HWDt.out.mono ?_
          rintro e w3 ⟨R2, hge, rfl, HB3, hO3⟩
          have HV3 := Lib.hid (HS.out.2.2.2.1.on hO3)
          obtain ⟨d1, d2, d3⟩ := HV3.out.cells3
          have HO3 := Lib.hid hO3
          have HGE := Lib.hid hge
          clear hO3 hcellZ HWDt hge
          go_wp2_with fail
          with_reducible refine (HNXt.out _ HO3.out.tab).mono ?_
          rintro e w4 ⟨rfl, hO4⟩
          have HV4 := Lib.hid (HV3.out.on hO4)
          obtain ⟨d1, d2, d3⟩ := HV4.out.cells3
          have f1 := HV4.out.2.2 0
          have f2 := HV4.out.2.2 1
          have f3 := HV4.out.2.2 2
          have HV5 : Hid (VB w.heap.size (((w4.setCell ⟨w.heap.size, 0, none⟩ (.int .i64 f)).setCell ⟨w.heap.size, 1, none⟩ (.int .i64 ((K - 3 * (t + 1) : Nat) : Int))).setCell ⟨w.heap.size, 2, none⟩ (.int .u64 ((WS (t + 1) : Nat) : Int))) (dmL f ((K - 3 * (t + 1) : Nat) : Int) (WS (t + 1)))) := ((HV4.out.set 0 _ (by simp [dmL])).set 1 _ (by simp [dmL])).set 2 _ (by simp [dmL])
          have hwb := ((((HS.out.1.on HO3.out).on hO4).other ⟨w.heap.size, 0, none⟩ (by simp) (.int .i64 f)).other ⟨w.heap.size, 1, none⟩ (by simp) (.int .i64 ((K - 3 * (t + 1) : Nat) : Int))).other ⟨w.heap.size, 2, none⟩ (by simp) (.int .u64 ((WS (t + 1) : Nat) : Int))
          have hRs : w.heap.size + 1 ≤ R2 := by have h1 := HS.out.2.2.2.2.size; have h2 := HS.out.2.2.2.1.1; have h3 := HGE.out; omega
          have hb5 : Blk R2 (((w4.setCell ⟨w.heap.size, 0, none⟩ (.int .i64 f)).setCell ⟨w.heap.size, 1, none⟩ (.int .i64 ((K - 3 * (t + 1) : Nat) : Int))).setCell ⟨w.heap.size, 2, none⟩ (.int .u64 ((WS (t + 1) : Nat) : Int))) (WV (t + 1)) := (HB3.out.on hO4).kept (by simp [World.setCell]) (by rw [Below.heap_setCell _ _ _ _ (by simp; omega), Below.heap_setCell _ _ _ _ (by simp; omega), Below.heap_setCell _ _ _ _ (by simp; omega)])
          have hO5 : On w (((w4.setCell ⟨w.heap.size, 0, none⟩ (.int .i64 f)).setCell ⟨w.heap.size, 1, none⟩ (.int .i64 ((K - 3 * (t + 1) : Nat) : Int))).setCell ⟨w.heap.size, 2, none⟩ (.int .u64 ((WS (t + 1) : Nat) : Int))) := ((((HS.out.2.2.2.2.trans HO3.out).trans hO4).setCell (by simp) _).setCell (by simp) _).setCell (by simp) _
          have hsz5 : (((w4.setCell ⟨w.heap.size, 0, none⟩ (.int .i64 f)).setCell ⟨w.heap.size, 1, none⟩ (.int .i64 ((K - 3 * (t + 1) : Nat) : Int))).setCell ⟨w.heap.size, 2, none⟩ (.int .u64 ((WS (t + 1) : Nat) : Int))).heap.size = w4.heap.size := by simp
          obtain ⟨a2, c2, w6, hrun, hwb6, hg6⟩ := hwb.append (by rw [hsz5]; have := hO5.size; rw [hsz5] at this; have h2 := HV4.out.1; omega) (by omega) R2 (WV (t + 1)).length hRs rfl hb5 (fun h e => by have h1 := (HS.out.1.lt h e).2; have h3 := HGE.out; omega) w4.heap.size hsz5.symm
          have HRUN := Lib.hid hrun
          have HFN : Hid (WB (w.heap.size + 1) w6 (.slice a2 (t + 1 + 1) c2) (t + 1 + 1) WV ∧ w.heap.size + 1 ≤ R2 ∧ Blk R2 w6 (WV (t + 1)) ∧ VB w.heap.size w6 (dmL f ((K - 3 * (t + 1) : Nat) : Int) (WS (t + 1))) ∧ On w w6) := by
            have hlt2 : ∀ g, (Value.slice b (t + 1) c).ownBlock = some g → w.heap.size + 1 ≤ g ∧ g < wq.heap.size := HS.out.1.lt
            refine ⟨hwb6, hRs, hb5.kept hg6.size (hg6.block R2 hb5.1 fun e => ?_), HV5.out.kept hg6.size (hg6.block _ HV5.out.1 fun e => ?_), hO5.grownWB (B := w.heap.size + 1) (by omega) hwb hg6⟩
            · have h1 := hlt2 R2 e.symm; have h3 := HGE.out; omega
            · have h1 := hlt2 _ e.symm; omega
          clear hO4 hwb hRs hb5 hO5 hsz5 hrun hwb6 hg6
          go_wp2_with (at_builtin; refine wp_append2 rfl (.tmp 62) (.tmp 64) _ _ rfl _ _ (.slice a2 (t + 1 + 1) c2) rfl rfl HRUN.out ?_)
          go_roundw
          case rel => exact ⟨t + 1, R2, a2, c2, by omega, by go_num, rfl, rfl, HFN⟩
          case measure => simp [intOf]; omega
        · obtain rfl : t = m := by omega
          go_wp2
          go_ret2
          exact ⟨_, _, rfl, HS.out.1, HS.out.2.2.2.2⟩
end Go.Proofs.YtiibcfajcndcnaaDoor

/- The examples that every law of stage 9 asks besides: the call returns true. -/
namespace Go.Proofs.YtiibcfajcndcnaaDoor
open Go.RowKit
set_option linter.unusedVariables false

def lE : List Nat := [1, 64, 22, 50, 96, 33, 75, 47]
theorem fpowers_any (w : World) (hT : Tab w) : Calls Tryd.prog 43 #[] w fun e w' => e = .returned (.agg #[.int .u64 1, .int .u64 64, .int .u64 22, .int .u64 50, .int .u64 96, .int .u64 33, .int .u64 75, .int .u64 47]) ∧ On w w' := by
  have HO := Lib.hid ((On.refl hT).alloc (.cells #[.int .u64 1, .int .u64 64, .int .u64 22, .int .u64 50, .int .u64 96, .int .u64 33, .int .u64 75, .int .u64 47] 25))
  clear hT
  go_enter Tryd.func43, Tryd.ntmps43
  go_wp2
  (try simp only [Exit.inBlock, Exit.then])
  refine bodyPost_ret (by simp [results, Tryd.results43, go_sem]; try rfl) rfl ?_
  exact ⟨rfl, HO.out⟩
theorem k_next (w : World) (hT : Tab w) : Calls Tryd.prog 10 #[.agg #[.int .i64 0, .int .i64 4, .int .u64 5]] w fun e w' => e = .returned (.tuple #[.agg #[.int .i64 0, .int .i64 1, .int .u64 6], .int .i64 0]) ∧ On w w' := by
  have h := next_yes 0 4 5 w hT (by decide) (by omega)
  rw [show nxS 0 5 = 6 by decide +kernel] at h
  exact h
theorem k_word9 (w : World) (hT : Tab w) (hD : TabD w) (z : Nat) (hz : z ≤ 18446744073709551615) (y : Nat) (hy : fldL 0 3 1 lE z = [y]) (v : Value) (hR : Reads w v lE) : Calls Tryd.prog 19 #[.agg #[.int .i64 0, .int .i64 3, .int .u64 1], v, .int .u64 (z : Int)] w fun e w' => ∃ R, e = .returned (.tuple #[.slice (some ⟨R, 0, none⟩) 1 1, .int .i64 0]) ∧ Hid (Blk R w' [y]) ∧ On w w' := by
  have h := fword_yes 0 3 1 z lE v w hT hD (by decide) (by omega) rfl hz hR
  rw [hy] at h
  exact h.mono fun e w' ⟨R, h1, h2, h3, h4⟩ => ⟨R, h2, h3, h4⟩
theorem k_at (w : World) (hT : Tab w) (hD : TabD w) : Calls Tryd.prog 14 #[.int .i64 0, .int .u64 1, .agg #[.int .u64 1, .int .u64 64, .int .u64 22, .int .u64 50, .int .u64 96, .int .u64 33, .int .u64 75, .int .u64 47], .int .u64 2] w fun e w' => e = .returned (.int .u64 2) ∧ On w w' := by
  have h := at_any 0 1 2 lE w hT hD rfl (by decide) (by omega) (by omega)
  rw [show atF 0 1 lE 2 = 2 by decide +kernel] at h
  exact h
theorem k_rounds (w : World) : Calls Tryd.prog 12 #[.int .i64 13] w fun e w' => e = .returned (.int .i64 4) ∧ w = w' := rounds_any 13 w (by omega)
set_option maxRecDepth 100000 in
set_option maxHeartbeats 2000000 in
theorem fworks_any (w : World) (hT : Tab w) (hD : TabD w) : Calls Tryd.prog 16 #[] w fun e w' => e = .returned (.bool true) ∧ On w w' := by
  have HT := Lib.hid hT; have HD := Lib.hid hD
  clear hT hD
  have heq : ∀ wx : World, (Op.equalIn 10000 24 (.agg #[.int .i64 0, .int .i64 1, .int .u64 6]) (.agg #[.int .i64 0, .int .i64 1, .int .u64 6])).run Tryd.prog wx = .ok true wx := fun wx => by kernel_rfl
  go_enter Tryd.func16, Tryd.ntmps16
  go_wp2_with fail
  refine (k_next w HT.out).mono ?_
  rintro e w1 ⟨rfl, hO1⟩
  have hO2 := hO1.alloc (.cells #[.int .i64 0, .int .i64 1, .int .u64 6] 24)
  have hO3 := hO2.alloc (.cells #[.int .u64 1, .int .u64 64, .int .u64 22, .int .u64 50, .int .u64 96, .int .u64 33, .int .u64 75, .int .u64 47] 22)
  have hVB := (vb_new w1 #[.int .i64 0, .int .i64 1, .int .u64 6] 24).on ((On.refl hO2.tab).alloc (.cells #[.int .u64 1, .int .u64 64, .int .u64 22, .int .u64 50, .int .u64 96, .int .u64 33, .int .u64 75, .int .u64 47] 22))
  have hRE := reads_new (w1.alloc (.cells #[.int .i64 0, .int .i64 1, .int .u64 6] 24)) lE 8 #[.int .u64 1, .int .u64 64, .int .u64 22, .int .u64 50, .int .u64 96, .int .u64 33, .int .u64 75, .int .u64 47] (w1.heap.size + 1) (by simp) (by rfl) (by decide) (by decide)
  have HWC := Lib.hid (k_word9 _ hO3.tab (HD.out.on hO3) 9 (by omega) 9 (by decide +kernel) _ hRE)
  have HO3 := Lib.hid hO3
  have HVB := Lib.hid hVB
  clear hO1 hO2 hO3 hVB hRE
  go_wp2_with fail
  refine HWC.out.mono ?_
  rintro e w2 ⟨R, rfl, HB2, hO4⟩
  obtain ⟨d1, d2, d3⟩ := (HVB.out.on hO4).cells3
  have HO4 := Lib.hid (HO3.out.trans hO4)
  clear hO4 HWC HVB
  go_wp2_with (first
    | (go_at_call 12; with_reducible refine (k_rounds _).mono ?_; rintro e w3 ⟨rfl, rfl⟩)
    | (go_at_call 43; refine (fpowers_any _ HO4.out.tab).mono ?_; rintro e w4 ⟨rfl, hO5⟩; have HO5 := Lib.hid (HO4.out.trans hO5); have HB5 := Lib.hid (HB2.out.on hO5); clear hO5)
    | (go_at_call 14; refine (k_at _ HO5.out.tab (HD.out.on HO5.out)).mono ?_; rintro e w5 ⟨rfl, hO6⟩; have HO6 := Lib.hid (HO5.out.trans hO6); have HB6 := Lib.hid (HB5.out.on hO6); clear hO6)
    | fail)
  have hO7 := HO6.out.alloc (.cells #[.int .u64 9] 22)
  have hR1 := (HB6.out.on ((On.refl HO6.out.tab).alloc (.cells #[.int .u64 9] 22))).reads (by decide) (by decide) 1
  have HSM := Lib.hid (fw_csame [9] [9] _ _ _ true (by decide) hO7.tab hR1 (reads_new w5 [9] 1 #[.int .u64 9] w5.heap.size rfl (by rfl) (by decide) (by decide)))
  have HO7 := Lib.hid hO7
  clear hO7 hR1
  go_wp2_with fail
  refine HSM.out.mono ?_
  rintro e w6 ⟨rfl, hO8⟩
  have HO8 := Lib.hid (HO7.out.trans hO8)
  clear hO8 d1 d2 d3
  go_wp2
  go_ret
  exact ⟨rfl, HO8.out⟩
end Go.Proofs.YtiibcfajcndcnaaDoor

/- The laws' own calls: four, domain, word: what each returns. -/
namespace Go.Proofs.YtiibcfajcndcnaaDoor
open Go.RowKit
set_option linter.unusedVariables false

/-- The shift that the laws take. -/
def shD (X : Int) (s : Nat) : Nat := if redF X s = 0 then 1 else redF X s
theorem shD_valid (X : Int) (N s : Nat) (hv : validB X = true) (hN : N ≤ 5) : validD X N (shD X s) = true := by
  have hp := (valid_iff X).1 hv
  have h97 := big X hv
  have hg : 5 ≤ grF X := by rcases field_cases X hv with rfl | rfl | rfl | rfl <;> decide
  have h1 : shD X s ≠ 0 ∧ shD X s < pOf X := by
    unfold shD
    have : redF X s < pOf X := by rw [redF_pos _ _ hp]; exact Nat.mod_lt _ hp
    split
    · omega
    · omega
  unfold validD
  rw [hv, decide_eq_true (show (0 : Int) ≤ (N : Int) by omega), decide_eq_true (show (N : Int) ≤ (grF X : Int) by omega), decide_eq_true h1.1, decide_eq_true h1.2]
  rfl
theorem shD_le (X : Int) (s : Nat) : shD X s ≤ 998244353 := by have := redF_le X s; unfold shD; split <;> omega
theorem valL_take (f : Int) (k s : Nat) (p : List Nat) (i : Nat) (hv : validB f = true) (hi : i < 2 ^ k) : (valL f k s p).take (i + 1) = (valL f k s p).take i ++ [evF f p (ptF f k s i)] := by
  rw [take_snoc _ i (by rw [valL_len]; exact hi), valL_ptL hv p s i hi]
end Go.Proofs.YtiibcfajcndcnaaDoor

/- The law's own calls: word of stage 9: what each returns. -/
namespace Go.Proofs.YtiibcfajcndcnaaDoor
open Go.RowKit
set_option linter.unusedVariables false

set_option maxRecDepth 100000 in
set_option maxHeartbeats 2000000 in
theorem fword_any (f : Int) (K s : Nat) (p : List Nat) (vp : Value) (w : World) (hT : Tab w) (hv : validD f K s = true) (hz : 2 ^ K ≤ 512) (hR : Reads w vp p) (hl : p.length ≤ 100000) :
    Calls Tryd.prog 28 #[.agg #[.int .i64 f, .int .i64 (K : Int), .int .u64 (s : Int)], vp] w fun e w' => ∃ a c, e = .returned (.slice a (2 ^ K) c) ∧ Reads w' (.slice a (2 ^ K) c) (valL f K s p) ∧ On w w' := by
  obtain ⟨aP, cP, rfl⟩ := hR.shape
  obtain ⟨hvf, hkg, hk2, hs0, hsp, hsn, hsb⟩ := validD_nat hv
  have hg18 := grF_le f
  have hple := pOf_le f
  have hO0 : On w (w.alloc (.cells #[.int .i64 f, .int .i64 (K : Int), .int .u64 (s : Int)] 24)) := (On.refl hT).alloc _
  have hS0 := dom_new w (.int .i64 f) (.int .i64 (K : Int)) (.int .u64 (s : Int)) 24
  obtain ⟨u, hu⟩ : ∃ u, u = w.alloc (.cells #[.int .i64 f, .int .i64 (K : Int), .int .u64 (s : Int)] 24) := ⟨_, rfl⟩
  rw [← hu] at hO0 hS0
  have HU := Lib.hid hu
  have HO0 := Lib.hid hO0; have HS0 := Lib.hid hS0
  have HT := Lib.hid hO0.tab
  have HR := Lib.hid (hR.on hO0)
  have HPS := Lib.hid (fun w' (hT : Tab w') => points_dom f (K : Int) s w' hT (by omega) (by omega))
  rw [sizeD_nat hv, ptsD_nat hv] at HPS
  have HPB := Lib.hid (fun i => ptF_le f K s i)
  have HPG := Lib.hid (fun i (h : i < 2 ^ K) => ptL_getD f K s i h)
  have HPLN := Lib.hid (ptL_len f K s)
  have HVB := Lib.hid (valL_bd (k := K) (s := s) (p := p) ((valid_iff f).1 hvf))
  have HVLN := Lib.hid (valL_len f K s p)
  have HTK := Lib.hid (fun i hi => valL_take f K s p i hvf hi)
  have HEV := Lib.hid (fun x w' hT hR hx => eval_any f p x (.slice aP p.length cP) w' hT hR hx)
  have HEB := Lib.hid (fun x => evF_le f p x)
  generalize valL f K s p = V at *
  obtain ⟨z, hze⟩ : ∃ z, z = 2 ^ K := ⟨_, rfl⟩
  rw [← hze] at hz HPS HPG HPLN HVLN HTK ⊢
  clear hO0 hS0 hu hR hT hv hsb hsn hs0 hk2 hkg hze
  generalize p.length = pl at *
  go_enter Tryd.func28, Tryd.ntmps28
  go_wp2_with fail
  rw [← HU.out]
  obtain ⟨b1, b2, b3⟩ := HS0.out
  go_wp2_with (go_at_call 55; with_reducible refine (HPS.out u HT.out).mono ?_; rintro e w1 ⟨g, rfl, hg1, hB1, hW1⟩; have HB1 := Lib.hid hB1; have HW1 := Lib.hid hW1; clear hB1 hW1 hg1)
  clear b1 b2 b3
  have HT1 := Lib.hid HW1.out.tab
  have HR1 := Lib.hid (HR.out.on HW1.out)
  go_loopw [6, 7] (fun vx vi wr => ∃ (i : Nat) (ax : Option Addr) (cx : Nat), i ≤ z ∧ vi = .int .i64 (i : Int) ∧ vx = .slice ax i cx ∧ Hid (Ow w1.heap.size wr (.slice ax i cx) (V.take i)) ∧ Hid (On w1 wr)) (fun _ vi _ => z - (intOf vi).toNat)
  case atStart => exact ⟨0, none, 0, Nat.zero_le _, rfl, rfl, by unfold Hid; rw [List.take_zero]; exact Ow.nil _ _, On.refl HT1.out⟩
  case round =>
    obtain ⟨i, ax, cx, hi, rfl, rfl, HOW, HON⟩ := hrel
    by_cases hlt : i < z
    · have hpc := (HB1.out.on HON.out).cell i (by rw [HPLN.out]; exact hlt)
      rw [HPG.out i hlt] at hpc
      have hst := HTK.out i hlt
      obtain ⟨d1, d2, d3⟩ := dom_on HS0.out (HW1.out.trans HON.out)
      have hxb := HPB.out i
      generalize ptF f K s i = x at *
      have hyb := HEB.out x
      have HEX := Lib.hid (fun nq => HEV.out x (wr.drewN nq) (HON.out.drewN nq).tab ((HR1.out.on HON.out).drewN nq) (by omega))
      generalize evF f p x = y at *
      have hml : (V.take i).length = i := by rw [List.length_take, HVLN.out]; omega
      have HAP : Hid (∀ nq, ∃ a c w2, (∀ ty, (Builtin.append_ #[33, 33] ty #[.slice ax i cx, .slice (some ⟨wr.heap.size, 0, none⟩) 1 1]).run Tryd.prog ((wr.drewN nq).alloc (.cells #[.int .u64 (y : Int)] 22)) = .ok (.slice a (i + 1) c) w2) ∧ Ow w1.heap.size w2 (.slice a (i + 1) c) (V.take (i + 1)) ∧ On w1 w2) := fun nq => by
        obtain ⟨v', w2, h1, h2, h3, h4⟩ := append_own w1.heap.size y _ rfl (V.take i) (.slice ax i cx) (wr.drewN nq) wr.heap.size rfl (HOW.out.drewN nq) HON.out.size (by rw [hml]; omega)
        rw [← hst] at h2
        obtain ⟨a, c, rfl⟩ := h2.shape
        have e : (V.take (i + 1)).length = i + 1 := by rw [List.length_take, HVLN.out]; omega
        rw [e] at h1 h2
        exact ⟨a, c, w2, h1, h2, (HON.out.drewN nq).grown (Nat.le_refl _) (HOW.out.drewN nq) h3⟩
      have HBX : Hid (∀ w', On w1 w' → _) := fun w' h => dom_on HS0.out (HW1.out.trans h)
      have HPC : Hid (∀ w', On w1 w' → w'.cell? ⟨g, i, none⟩ = some (.int .u64 (x : Int))) := fun w' h => by rw [h.cell (p := ⟨g, i, none⟩) HB1.out.1, ← HON.out.cell (p := ⟨g, i, none⟩) HB1.out.1]; exact hpc
      clear hst hml
      go_wp2
      refine region_head_tail (S := fun wq => On w1 wq) 11 (by kernel_rfl) (by kernel_rfl) ?_
      have hSd : On w1 wr.drew := HON.out.drew
      refine HeadG.take (i := 0) (v := ?hdv0) rfl (by kernel_rfl) (by kernel_rfl) (by kernel_rfl) (by kernel_rfl) (by kernel_rfl) (by kernel_rfl) (by kernel_rfl) (fun _ _ _ h => h) (Or.inl ⟨by rfl, ?hdy0⟩) hSd ?hdr0
      case hdy0 => (intro w' hSw; obtain ⟨e1, e2, e3⟩ := HBX.out w' hSw; have e4 := HPC.out w' hSw; go_simp; try with_reducible rfl)
      try simp only [Act.put, List.setIfInBounds_toArray, List.set_cons_zero, List.set_cons_succ]
      refine HeadG.take (i := 1) (v := ?hdv1) rfl (by kernel_rfl) (by kernel_rfl) (by kernel_rfl) (by kernel_rfl) (by kernel_rfl) (by kernel_rfl) (by kernel_rfl) (fun _ _ _ h => h) (Or.inl ⟨by rfl, ?hdy1⟩) hSd ?hdr1
      case hdy1 => (intro w' hSw; obtain ⟨e1, e2, e3⟩ := HBX.out w' hSw; have e4 := HPC.out w' hSw; go_simp; try with_reducible rfl)
      try simp only [Act.put, List.setIfInBounds_toArray, List.set_cons_zero, List.set_cons_succ]
      refine HeadG.take (i := 2) (v := ?hdv2) rfl (by kernel_rfl) (by kernel_rfl) (by kernel_rfl) (by kernel_rfl) (by kernel_rfl) (by kernel_rfl) (by kernel_rfl) (fun _ _ _ h => h) (Or.inl ⟨by rfl, ?hdy2⟩) hSd ?hdr2
      case hdy2 => (intro w' hSw; obtain ⟨e1, e2, e3⟩ := HBX.out w' hSw; have e4 := HPC.out w' hSw; go_simp; try with_reducible rfl)
      try simp only [Act.put, List.setIfInBounds_toArray, List.set_cons_zero, List.set_cons_succ]
      refine HeadG.take (i := 3) (v := ?hdv3) rfl (by kernel_rfl) (by kernel_rfl) (by kernel_rfl) (by kernel_rfl) (by kernel_rfl) (by kernel_rfl) (by kernel_rfl) (fun _ _ _ h => h) (Or.inl ⟨by rfl, ?hdy3⟩) hSd ?hdr3
      case hdy3 => (intro w' hSw; obtain ⟨e1, e2, e3⟩ := HBX.out w' hSw; have e4 := HPC.out w' hSw; go_simp; try with_reducible rfl)
      try simp only [Act.put, List.setIfInBounds_toArray, List.set_cons_zero, List.set_cons_succ]
      refine HeadG.take (i := 4) (v := ?hdv4) rfl (by kernel_rfl) (by kernel_rfl) (by kernel_rfl) (by kernel_rfl) (by kernel_rfl) (by kernel_rfl) (by kernel_rfl) (fun _ _ _ h => h) (Or.inl ⟨by rfl, ?hdy4⟩) hSd ?hdr4
      case hdy4 => (intro w' hSw; obtain ⟨e1, e2, e3⟩ := HBX.out w' hSw; have e4 := HPC.out w' hSw; go_simp; try with_reducible rfl)
      try simp only [Act.put, List.setIfInBounds_toArray, List.set_cons_zero, List.set_cons_succ]
      refine HeadG.take (i := 5) (v := ?hdv5) rfl (by kernel_rfl) (by kernel_rfl) (by kernel_rfl) (by kernel_rfl) (by kernel_rfl) (by kernel_rfl) (by kernel_rfl) (fun _ _ _ h => h) (Or.inl ⟨by rfl, ?hdy5⟩) hSd ?hdr5
      case hdy5 => (intro w' hSw; obtain ⟨e1, e2, e3⟩ := HBX.out w' hSw; have e4 := HPC.out w' hSw; go_simp; try with_reducible rfl)
      try simp only [Act.put, List.setIfInBounds_toArray, List.set_cons_zero, List.set_cons_succ]
      refine HeadG.take (i := 6) (v := ?hdv6) rfl (by kernel_rfl) (by kernel_rfl) (by kernel_rfl) (by kernel_rfl) (by kernel_rfl) (by kernel_rfl) (by kernel_rfl) (fun _ _ _ h => h) (Or.inl ⟨by rfl, ?hdy6⟩) hSd ?hdr6
      case hdy6 => (intro w' hSw; obtain ⟨e1, e2, e3⟩ := HBX.out w' hSw; have e4 := HPC.out w' hSw; go_simp; try with_reducible rfl)
      try simp only [Act.put, List.setIfInBounds_toArray, List.set_cons_zero, List.set_cons_succ]
      refine HeadG.take (i := 7) (v := ?hdv7) rfl (by kernel_rfl) (by kernel_rfl) (by kernel_rfl) (by kernel_rfl) (by kernel_rfl) (by kernel_rfl) (by kernel_rfl) (fun _ _ _ h => h) (Or.inl ⟨by rfl, ?hdy7⟩) hSd ?hdr7
      case hdy7 => (intro w' hSw; obtain ⟨e1, e2, e3⟩ := HBX.out w' hSw; have e4 := HPC.out w' hSw; go_simp; try with_reducible rfl)
      try simp only [Act.put, List.setIfInBounds_toArray, List.set_cons_zero, List.set_cons_succ]
      refine HeadG.one (i := 8) rfl (by kernel_rfl) (by kernel_rfl) (fun K9 hK9 => ?_)
      go_simp
      go_at_call 56
      refine (HEX.out 1).mono ?_
      rintro e w5 ⟨rfl, nq, rfl⟩
      refine hK9.out _ _ ((HON.out.drewN 1).drewN nq) ?_
      clear hK9 K9
      try simp only [Act.put, List.setIfInBounds_toArray, List.set_cons_zero, List.set_cons_succ]
      obtain ⟨a2, c2, w2, hr2, ho2, hw2⟩ := HAP.out (1 + nq)
      have HR2 := Lib.hid hr2; have HO2 := Lib.hid ho2; have HW2 := Lib.hid hw2
      clear hr2 ho2 hw2
      refine HeadG.one (i := 9) rfl (by kernel_rfl) (by kernel_rfl) (fun K9 hK9 => ?_)
      go_simp
      refine hK9.out _ _ ((HON.out.drewN (1 + nq)).alloc _) ?_
      clear hK9 K9
      try simp only [Act.put, List.setIfInBounds_toArray, List.set_cons_zero, List.set_cons_succ]
      refine HeadG.one (i := 10) rfl (by kernel_rfl) (by kernel_rfl) (fun K9 hK9 => ?_)
      refine step_append2 rfl (.tmp 16) (.tmp 25) _ _ rfl _ _ _ rfl rfl HR2.out ?_
      refine hK9.out _ _ HW2.out ?_
      clear hK9 K9
      try simp only [Act.put, List.setIfInBounds_toArray, List.set_cons_zero, List.set_cons_succ]
      refine HeadG.last (i := 11) rfl (by kernel_rfl) (by kernel_rfl) (by kernel_rfl) (fun K9 hK9 => ?_)
      go_simp
      refine hK9.out _ _ ?_
      clear hK9 K9
      try simp only [Act.put, List.setIfInBounds_toArray, List.set_cons_zero, List.set_cons_succ]
      go_wp2
      go_roundw
      case rel => exact ⟨i + 1, a2, c2, by omega, by go_num, rfl, HO2, HW2⟩
      case measure => simp [intOf]; omega
    · obtain rfl : i = z := by omega
      have hxr := HOW.out
      rw [List.take_of_length_le (by rw [HVLN.out]; exact Nat.le_refl _)] at hxr
      have HXR := Lib.hid (hxr.reads HVB.out)
      have HOE := Lib.hid (HO0.out.trans (HW1.out.trans HON.out))
      clear hxr
      go_wp2
      go_ret
      exact ⟨_, _, rfl, HXR.out, HOE.out⟩
end Go.Proofs.YtiibcfajcndcnaaDoor
