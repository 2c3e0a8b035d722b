/- The document's own back and Inverse: what the calls return. -/
import Derived.Test.YtbmieoedpgdlpaaDoorSrefc
namespace Go.Proofs.YtbmieoedpgdlpaaDoor
open Go.RowKit
set_option linter.unusedVariables false

/-- The factors of a row of the inverse. -/
def mB (f : Int) (j : Nat) : Nat := if j = 0 then subF f 0 4 else if j = 1 then 3 else if j = 2 then subF f 0 11 else 17
theorem mB_le (f : Int) (j : Nat) : mB f j ≤ 998244353 := by
  have h1 := subF_le f 0 4; have h2 := subF_le f 0 11
  unfold mB; (repeat' split) <;> omega
def eB (i : Nat) : Nat := backN (i : Int)
def aB (f : Int) (y : Nat → Nat) (i : Nat) : Nat → Nat
  | 0 => 0
  | j + 1 => addF f (aB f y i j) (mulF f (mB f j) (y ((i + j) % 4)))
theorem aB_le (f : Int) (y : Nat → Nat) (i j : Nat) : aB f y i j ≤ 998244353 := by
  cases j with
  | zero => exact Nat.zero_le _
  | succ j => exact addF_le _ _ _
def x1 (f : Int) (t : St) (i : Nat) : Nat := mulF f (aB f (ix t) i 4) (invF f 35)
def x2 (f : Int) (t : St) (i : Nat) : Nat := powF f (x1 f t i) (backN f)
def x3 (f : Int) (r : Nat) (t : St) (i : Nat) : Nat := subF f (x2 f t i) (cstF f r i)
def gB (h : Nat → Nat) (i v : Nat) : Nat → Nat := fun x => if x = i then v else if x < i then h x else 0
theorem gB_put {h : Nat → Nat} {B i v : Nat} {w : World} (H : Blk B w (fl4 (gB h i v))) (hi : i < 4) (v' : Nat) : Blk B (w.setCell ⟨B, i, none⟩ (.int .u64 ((v' : Nat) : Int))) (fl4 (gB h i v')) :=
  (H.put4 i v' hi).eq (fl4_ext fun x hx => by
    unfold gB
    by_cases h1 : x = i
    · subst h1; simp
    · rw [if_neg h1, if_neg h1, if_neg h1])
theorem gB_at {h : Nat → Nat} {B i v : Nat} {w : World} (H : Blk B w (fl4 (gB h i v))) (hi : i < 4) : w.cell? ⟨B, i, none⟩ = some (.int .u64 ((v : Nat) : Int)) := by
  have e := H.at4 i hi
  simpa [gB] using e
theorem gB_next (h : Nat → Nat) (i : Nat) : fl4 (gB h i (h i)) = fl4 (gB h (i + 1) 0) := fl4_ext fun x hx => by
  unfold gB
  by_cases h1 : x = i
  · subst h1; simp
  · rw [if_neg h1]
    by_cases h2 : x < i
    · rw [if_pos h2, if_neg (by omega), if_pos (by omega)]
    · by_cases h3 : x = i + 1
      · rw [if_neg h2, if_pos h3]
      · rw [if_neg h2, if_neg h3, if_neg (by omega)]
theorem gB_end (h : Nat → Nat) : fl4 (gB h 4 0) = fl4 h := fl4_ext fun x hx => by
  unfold gB; rw [if_neg (by omega), if_pos hx]
theorem gB_zero (h : Nat → Nat) : fl4 (ix ⟨0, 0, 0, 0⟩) = fl4 (gB h 0 0) := fl4_ext fun x hx => by
  unfold gB ix; (repeat' split) <;> first | rfl | omega
theorem trip {w : World} (hT : Tab w) (a b c d a' b' c' d' : Nat) (t : TypeId) : ∃ w3, w3 = ((w.alloc (.cells #[.int .u64 (a : Int), .int .u64 (b : Int), .int .u64 (c : Int), .int .u64 (d : Int)] t)).alloc (.cells #[.int .u64 (a' : Int), .int .u64 (b' : Int), .int .u64 (c' : Int), .int .u64 (d' : Int)] t)).alloc (.cells #[.int .u64 0, .int .u64 0, .int .u64 0, .int .u64 0] t) ∧
    Blk w.heap.size w3 [a, b, c, d] ∧ Blk (w.heap.size + 1) w3 [a', b', c', d'] ∧ Blk (w.heap.size + 1 + 1) w3 (fl4 (ix ⟨0, 0, 0, 0⟩)) ∧ On w w3 := by
  refine ⟨_, rfl, ?_, ?_, ?_, ?_⟩
  · exact ((blk_new4 w a b c d t).on ((On.refl ((On.refl hT).alloc _).tab).alloc _)).on ((On.refl (((On.refl hT).alloc _).alloc _).tab).alloc _)
  · have := (blk_new4 (w.alloc (.cells #[.int .u64 (a : Int), .int .u64 (b : Int), .int .u64 (c : Int), .int .u64 (d : Int)] t)) a' b' c' d' t).on ((On.refl (((On.refl hT).alloc _).alloc _).tab).alloc (.cells #[.int .u64 0, .int .u64 0, .int .u64 0, .int .u64 0] t))
    rw [World.size_alloc] at this
    exact this
  · have := blk_new4 ((w.alloc (.cells #[.int .u64 (a : Int), .int .u64 (b : Int), .int .u64 (c : Int), .int .u64 (d : Int)] t)).alloc (.cells #[.int .u64 (a' : Int), .int .u64 (b' : Int), .int .u64 (c' : Int), .int .u64 (d' : Int)] t)) 0 0 0 0 t
    simpa using this
  · exact (((On.refl hT).alloc _).alloc _).alloc _
theorem row_back (p x y z v : Nat) (hp : 17 ≤ p) : ((p - 4) * x + 3 * y + (p - 11) * z + 17 * v) % p = rowB p (x % p) (y % p) (z % p) (v % p) % p := by
  have h0 := Nat.mod_lt x (show 0 < p by omega)
  have h2 := Nat.mod_lt z (show 0 < p by omega)
  have e0 := mod_lin p x
  have e1 := mod_lin p y
  have e2 := mod_lin p z
  have e3 := mod_lin p v
  generalize x % p = t0 at *
  generalize y % p = t1 at *
  generalize z % p = t2 at *
  generalize v % p = t3 at *
  generalize (x / p : Nat) = q0 at *
  generalize (y / p : Nat) = q1 at *
  generalize (z / p : Nat) = q2 at *
  generalize (v / p : Nat) = q3 at *
  refine mod_eq_of_lin ((x : Int) + z - 15 - 4 * q0 + 3 * q1 - 11 * q2 + 17 * q3) ?_
  unfold rowB
  have c0 : ((p - t0 : Nat) : Int) = (p : Int) - t0 := by omega
  have c2 : ((p - t2 : Nat) : Int) = (p : Int) - t2 := by omega
  have c4 : ((p - 4 : Nat) : Int) = (p : Int) - 4 := by omega
  have c5 : ((p - 11 : Nat) : Int) = (p : Int) - 11 := by omega
  push_cast [c0, c2, c4, c5]
  rw [e0, e1, e2, e3]
  grind
theorem pOf_ge (f : Int) (hv : validB f = true) : 18 ≤ pOf f := by rcases field_cases f hv with rfl | rfl | rfl | rfl <;> decide
theorem aB_row (f : Int) (y : Nat → Nat) (i : Nat) (hv : validB f = true) (hi : i < 4) :
    aB f y i 4 = rowB (pOf f) (y i % pOf f) (y ((i + 1) % 4) % pOf f) (y ((i + 2) % 4) % pOf f) (y ((i + 3) % 4) % pOf f) % pOf f := by
  have hp := (valid_iff f).1 hv
  have hg := pOf_ge f hv
  have m0 : mB f 0 = pOf f - 4 := by
    show subF f 0 4 = _
    rw [subF_pos _ _ _ hp, Nat.mod_eq_of_lt (show 4 < pOf f by omega), Nat.zero_add, Nat.mod_eq_of_lt (by omega)]
  have m2 : mB f 2 = pOf f - 11 := by
    show subF f 0 11 = _
    rw [subF_pos _ _ _ hp, Nat.mod_eq_of_lt (show 11 < pOf f by omega), Nat.zero_add, Nat.mod_eq_of_lt (by omega)]
  have m1 : mB f 1 = 3 := rfl
  have m3 : mB f 3 = 17 := rfl
  have e0 : (i + 0) % 4 = i := by omega
  rw [← row_back (pOf f) _ _ _ _ (by omega)]
  simp only [aB, addF_pos _ _ _ hp, mulF_pos _ _ _ hp, m0, m1, m2, m3, e0, Nat.mod_add_mod, Nat.add_mod_mod, Nat.zero_add]
theorem x3_at (f : Int) (r : Nat) (t : St) (hv : validB f = true) : fl4 (x3 f r t) = fl4 (ix (unS f r (modS f t))) := by
  have hp := (valid_iff f).1 hv
  rw [← un_at]
  refine fl4_ext fun i hi => ?_
  have hm : ∀ k, k < 4 → ix (modS f t) k = ix t k % pOf f := fun k hk => by rcases lt4 hk with rfl | rfl | rfl | rfl <;> rfl
  unfold x3 x2 x1 unAt offF part35
  rw [aB_row f (ix t) i hv hi, mulF_pos _ _ _ hp, subF_pos _ _ _ hp, hm i hi, hm _ (Nat.mod_lt _ (by omega)), hm _ (Nat.mod_lt _ (by omega)), hm _ (Nat.mod_lt _ (by omega))]
  have hc := cstF_lt f r i hp
  rw [Nat.mod_eq_of_lt hc]
  congr 1
  omega

set_option maxHeartbeats 8000000 in
set_option maxRecDepth 100000 in
theorem rback_yes (F r : Nat) (t : St) (w : World) (hT : Tab w) (hF4 : F < 4) (hr : r < 8) (hs : Sm t) :
    Calls Tryd.prog 41 #[.int .i64 (F : Int), .int .i64 (r : Int), .agg #[.int .u64 (t.a : Int), .int .u64 (t.b : Int), .int .u64 (t.c : Int), .int .u64 (t.d : Int)]] w fun e w' => e = .returned (.agg #[.int .u64 ((unS (F : Int) r (modS (F : Int) t)).a : Int), .int .u64 ((unS (F : Int) r (modS (F : Int) t)).b : Int), .int .u64 ((unS (F : Int) r (modS (F : Int) t)).c : Int), .int .u64 ((unS (F : Int) r (modS (F : Int) t)).d : Int)]) ∧ On w w' := by
  have hv : validB (F : Int) = true := by unfold validB; simp; omega
  have hp := (valid_iff (F : Int)).1 hv
  have hle := pOf_le (F : Int)
  have HS : Hid (∀ i, ix t i ≤ 18446744073709551615) := fun i => by unfold ix; obtain ⟨h1, h2, h3, h4⟩ := hs; (repeat' split) <;> assumption
  have HB := Lib.hid (box2 hT t 23 23)
  have HX := Lib.hid (x3_at (F : Int) r t hv)
  have HV := Lib.hid hv
  have HCO := Lib.hid (fun k w (hk : k < 4) => rconst_yes (F : Int) r k w hv hr hk)
  have HN1 := Lib.hid (fun w => rneg_any (F : Int) 4 w (by omega))
  have HN2 := Lib.hid (fun w => rneg_any (F : Int) 11 w (by omega))
  have HI := Lib.hid (fun w => rinv_any (F : Int) 35 w (by omega))
  have hn1 := subF_le (F : Int) 0 4
  have hn2 := subF_le (F : Int) 0 11
  have HMB : Hid (∀ m0 m2 : Nat, m0 = subF (F : Int) 0 4 → m2 = subF (F : Int) 0 11 → [m0, 3, m2, 17] = fl4 (mB (F : Int))) := fun m0 m2 h0 h2 => by subst h0 h2; rfl
  obtain ⟨m0, hm0⟩ : ∃ m, m = subF (F : Int) 0 4 := ⟨_, rfl⟩
  obtain ⟨m2, hm2⟩ : ∃ m, m = subF (F : Int) 0 11 := ⟨_, rfl⟩
  have HM0 := Lib.hid (HMB.out m0 m2 hm0 hm2)
  rw [← hm0] at HN1
  rw [← hm2] at HN2
  have hbn := backN_le (F : Int)
  have hiv := invF_le (F : Int) 35
  have l10 : (0 : Int) ≤ (F : Int) := by omega
  have l11 : (F : Int) < 4 := by omega
  have l12 : (0 : Int) ≤ (r : Int) := by omega
  have l13 : (r : Int) < 8 := by omega
  clear hT hs hv hm0 hm2 HMB
  go_enter Tryd.func41, Tryd.ntmps41
  go_upto_region 1 with fail
  generalize hW0 : (w.alloc (.cells #[.int .u64 (t.a : Int), .int .u64 (t.b : Int), .int .u64 (t.c : Int), .int .u64 (t.d : Int)] 23)).alloc (.cells #[.int .u64 0, .int .u64 0, .int .u64 0, .int .u64 0] 23) = W0 at *
  clear hW0
  go_wp2_with fail
  refine (HN1.out _).mono ?_
  rintro e w1 ⟨rfl, hD1⟩
  go_wp2_with fail
  refine (HN2.out _).mono ?_
  rintro e w2 ⟨rfl, hD2⟩
  have HO2 := Lib.hid ((hD1.trans hD2).on (On.refl HB.out.2.2.tab))
  clear hD1 hD2
  have HA2 := Lib.hid (HB.out.1.on HO2.out)
  have HR2 := Lib.hid (HB.out.2.1.on HO2.out)
  have HO3 := Lib.hid (HB.out.2.2.trans HO2.out)
  obtain ⟨w3, hw3, hM3⟩ := trip HO2.out.tab m0 3 m2 17 77 171 7373 665496235 23
  have HM3 := Lib.hid hM3
  have HW3 := Lib.hid hw3
  have hz : w.heap.size + 1 < w2.heap.size := HR2.out.1
  clear hw3 hM3 HB HO2
  go_upto_region 4 with fail
  have e3 : ((w2.alloc (.cells #[.int .u64 (m0 : Int), .int .u64 3, .int .u64 (m2 : Int), .int .u64 17] 23)).alloc (.cells #[.int .u64 77, .int .u64 171, .int .u64 7373, .int .u64 665496235] 23)).alloc (.cells #[.int .u64 0, .int .u64 0, .int .u64 0, .int .u64 0] 23) = w3 := HW3.out.symm
  rw [e3]
  clear e3 HW3
  have HA := Lib.hid (HA2.out.on HM3.out.2.2.2)
  have HR := Lib.hid (HR2.out.on HM3.out.2.2.2)
  have HO := Lib.hid (HO3.out.trans HM3.out.2.2.2)
  have HM := Lib.hid (HM3.out.1.eq HM0.out)
  have HE : Hid (Blk (w2.heap.size + 1) w3 (fl4 eB)) := HM3.out.2.1
  have HT0 := Lib.hid (HM3.out.2.2.1.eq (gB_zero (x3 (F : Int) r t)))
  clear HA2 HR2 HO3 HM3 HM0
  generalize w2.heap.size = M at *
  go_wp2_with fail
  go_loopw [10] (fun vi wr => ∃ i : Nat, i ≤ 4 ∧ vi = .int .i64 (i : Int) ∧ Hid (Blk (M + 1 + 1) wr (fl4 (gB (x3 (F : Int) r t) i 0))) ∧ Hid (Blk w.heap.size wr (fl4 (ix t))) ∧ Hid (Blk (w.heap.size + 1) wr (fl4 (ix ⟨0, 0, 0, 0⟩))) ∧ Hid (Blk M wr (fl4 (mB (F : Int)))) ∧ Hid (Blk (M + 1) wr (fl4 eB)) ∧ Hid (On w wr)) (fun vi _ => 4 - (intOf vi).toNat)
  case atStart => exact ⟨0, by omega, rfl, HT0, HA, HR, HM, HE, HO⟩
  case round =>
    clear HT0 HA HR HM HE HO
    obtain ⟨i, hi, rfl, HT0, HA, HR, HM, HE, HO⟩ := hrel
    by_cases hi4 : i < 4
    · have l4 : (0 : Int) ≤ (i : Int) := by omega
      have l5 : (i : Int) < 4 := by omega
      go_wp2_with fail
      go_loopw [11] (fun vj wr => ∃ j : Nat, j ≤ 4 ∧ vj = .int .i64 (j : Int) ∧ Hid (Blk (M + 1 + 1) wr (fl4 (gB (x3 (F : Int) r t) i (aB (F : Int) (ix t) i j)))) ∧ Hid (Blk w.heap.size wr (fl4 (ix t))) ∧ Hid (Blk (w.heap.size + 1) wr (fl4 (ix ⟨0, 0, 0, 0⟩))) ∧ Hid (Blk M wr (fl4 (mB (F : Int)))) ∧ Hid (Blk (M + 1) wr (fl4 eB)) ∧ Hid (On w wr)) (fun vj _ => 4 - (intOf vj).toNat)
      case atStart => exact ⟨0, by omega, rfl, HT0, HA, HR, HM, HE, HO⟩
      case round =>
        clear HT0 HA HR HM HE HO
        obtain ⟨j, hj, rfl, HT0, HA, HR, HM, HE, HO⟩ := hrel
        by_cases hj4 : j < 4
        · obtain ⟨q, hq⟩ : ∃ q, q = (i + j) % 4 := ⟨_, rfl⟩
          have hq4 : q < 4 := by omega
          have hi1 : IntKind.i64.wrap ((i : Int) + (j : Int)) = (i : Int) + (j : Int) := IntWalk.i64_in _ (by omega)
          have hj1 : ((i : Int) + (j : Int)).tmod 4 = (q : Int) := by rw [Int.tmod_eq_emod_of_nonneg (by omega)]; omega
          have HUU : Hid (addF (F : Int) (aB (F : Int) (ix t) i j) (mulF (F : Int) (mB (F : Int) j) (ix t q)) = aB (F : Int) (ix t) i (j + 1)) := by rw [hq]; exact rfl
          clear hq
          have hcT := gB_at HT0.out hi4
          have hfT := HT0.out.free i
          have hcm := HM.out.at4 j hj4
          have hcy := HA.out.at4 q hq4
          have lm := mB_le (F : Int) j
          have ly := HS.out q
          have lA := aB_le (F : Int) (ix t) i j
          have lq := mulF_le (F : Int) (mB (F : Int) j) (ix t q)
          have HMK := Lib.hid (fun n => rmul_any (F : Int) (mB (F : Int) j) (ix t q) (wr.drewN n) (by omega) (by omega))
          have HAK := Lib.hid (fun n => radd_any (F : Int) (aB (F : Int) (ix t) i j) (mulF (F : Int) (mB (F : Int) j) (ix t q)) (wr.drewN n) (by omega) (by omega))
          have HT2 : Hid (∀ v, v = aB (F : Int) (ix t) i (j + 1) → Blk (M + 1 + 1) (wr.setCell ⟨M + 1 + 1, i, none⟩ (.int .u64 ((v : Nat) : Int))) (fl4 (gB (x3 (F : Int) r t) i (aB (F : Int) (ix t) i (j + 1))))) := fun v hv => by subst hv; exact gB_put HT0.out hi4 _
          have HA2 : Hid (∀ u, Blk w.heap.size (wr.setCell ⟨M + 1 + 1, i, none⟩ u) (fl4 (ix t))) := fun u => HA.out.other _ (by simp; try omega) u
          have HR2 : Hid (∀ u, Blk (w.heap.size + 1) (wr.setCell ⟨M + 1 + 1, i, none⟩ u) (fl4 (ix ⟨0, 0, 0, 0⟩))) := fun u => HR.out.other _ (by simp; try omega) u
          have HM2 : Hid (∀ u, Blk M (wr.setCell ⟨M + 1 + 1, i, none⟩ u) (fl4 (mB (F : Int)))) := fun u => HM.out.other _ (by simp; try omega) u
          have HE2 : Hid (∀ u, Blk (M + 1) (wr.setCell ⟨M + 1 + 1, i, none⟩ u) (fl4 eB)) := fun u => HE.out.other _ (by simp; try omega) u
          have HO2 : Hid (∀ u, On w (wr.setCell ⟨M + 1 + 1, i, none⟩ u)) := fun u => HO.out.setCell (by simp; omega) u
          generalize mulF (F : Int) (mB (F : Int) j) (ix t q) = x at *
          generalize aB (F : Int) (ix t) i j = a at *
          generalize ix t q = y at *
          generalize mB (F : Int) j = m at *
          have l0 : (0 : Int) ≤ (j : Int) := by omega
          have l1 : (j : Int) < 4 := by omega
          have l2 : (0 : Int) ≤ (q : Int) := by omega
          have l3 : (q : Int) < 4 := by omega
          go_wp2
          refine region_quiet_tail 18 (by kernel_rfl) (by kernel_rfl) ?_
          simp only [List.take_succ_cons, List.take_zero, List.drop_succ_cons, List.drop_zero]
          repeat (quiet_step ((first | (go_at_call 38; exact quiet_of_drawn (HMK.out _)) | (go_at_call 31; exact quiet_of_drawn (HAK.out _)))))
          refine wpQuiet_nil ?_
          intro _ hw'
          obtain ⟨nq, hw''⟩ := hw'
          subst hw''
          have hca2 : (wr.drewN nq).cell? ⟨M + 1 + 1, i, none⟩ = _ := hcT
          have hfa2 : (wr.drewN nq).frozen? ⟨M + 1 + 1, i, none⟩ = false := hfT
          go_wp2
          go_roundw
          case rel => exact ⟨j + 1, by omega, by go_num, (HT2.out _ HUU.out).drewN nq, (HA2.out _).drewN nq, (HR2.out _).drewN nq, (HM2.out _).drewN nq, (HE2.out _).drewN nq, (HO2.out _).drewN nq⟩
          case measure => simp [intOf]; omega
        · obtain rfl : j = 4 := by omega
          clear hj hj4
          have hcT := gB_at HT0.out hi4
          have hfT := HT0.out.free i
          have lA := aB_le (F : Int) (ix t) i 4
          have HC1 := Lib.hid (fun n => HI.out (wr.drewN n))
          have HC2 := Lib.hid (fun n => rmul_any (F : Int) (aB (F : Int) (ix t) i 4) (invF (F : Int) 35) (wr.drewN n) (by omega) (by omega))
          have HUU : Hid (mulF (F : Int) (aB (F : Int) (ix t) i 4) (invF (F : Int) 35) = x1 (F : Int) t i) := rfl
          have HT2 : Hid (∀ v, v = x1 (F : Int) t i → Blk (M + 1 + 1) (wr.setCell ⟨M + 1 + 1, i, none⟩ (.int .u64 ((v : Nat) : Int))) (fl4 (gB (x3 (F : Int) r t) i (x1 (F : Int) t i)))) := fun v hv => by subst hv; exact gB_put HT0.out hi4 _
          have HA2 : Hid (∀ u, Blk w.heap.size (wr.setCell ⟨M + 1 + 1, i, none⟩ u) (fl4 (ix t))) := fun u => HA.out.other _ (by simp; try omega) u
          have HR2 : Hid (∀ u, Blk (w.heap.size + 1) (wr.setCell ⟨M + 1 + 1, i, none⟩ u) (fl4 (ix ⟨0, 0, 0, 0⟩))) := fun u => HR.out.other _ (by simp; try omega) u
          have HM2 : Hid (∀ u, Blk M (wr.setCell ⟨M + 1 + 1, i, none⟩ u) (fl4 (mB (F : Int)))) := fun u => HM.out.other _ (by simp; try omega) u
          have HE2 : Hid (∀ u, Blk (M + 1) (wr.setCell ⟨M + 1 + 1, i, none⟩ u) (fl4 eB)) := fun u => HE.out.other _ (by simp; try omega) u
          have HO2 : Hid (∀ u, On w (wr.setCell ⟨M + 1 + 1, i, none⟩ u)) := fun u => HO.out.setCell (by simp; omega) u
          generalize aB (F : Int) (ix t) i 4 = a at *
          generalize mulF (F : Int) a (invF (F : Int) 35) = V at *
          go_wp2
          refine region_quiet_tail 9 (by kernel_rfl) (by kernel_rfl) ?_
          simp only [List.take_succ_cons, List.take_zero, List.drop_succ_cons, List.drop_zero]
          repeat (quiet_step ((first | (go_at_call 52; with_reducible exact quiet_of_drawn (HC1.out _)) | (go_at_call 38; with_reducible exact quiet_of_drawn (HC2.out _)))))
          refine wpQuiet_nil ?_
          intro _ hw'
          obtain ⟨nq, hw''⟩ := hw'
          subst hw''
          have hca2 : (wr.drewN nq).cell? ⟨M + 1 + 1, i, none⟩ = _ := hcT
          have hfa2 : (wr.drewN nq).frozen? ⟨M + 1 + 1, i, none⟩ = false := hfT
          go_upto_region 12 with fail
          have HT3 := Lib.hid ((HT2.out _ HUU.out).drewN nq)
          have HA3 := Lib.hid ((HA2.out (.int .u64 (V : Int))).drewN nq)
          have HR3 := Lib.hid ((HR2.out (.int .u64 (V : Int))).drewN nq)
          have HM3 := Lib.hid ((HM2.out (.int .u64 (V : Int))).drewN nq)
          have HE3 := Lib.hid ((HE2.out (.int .u64 (V : Int))).drewN nq)
          have HO3 := Lib.hid ((HO2.out (.int .u64 (V : Int))).drewN nq)
          clear hca2 hfa2 hcT hfT HT2 HA2 HR2 HM2 HE2 HO2 HT0 HA HR HM HE HO HUU HC1 HC2
          generalize hw4 : (wr.drewN nq).setCell ⟨M + 1 + 1, i, none⟩ (.int .u64 (V : Int)) = w4 at *
          rw [show (wr.setCell ⟨M + 1 + 1, i, none⟩ (.int .u64 (V : Int))).drewN nq = w4 from hw4] at HT3 HA3 HR3 HM3 HE3 HO3
          clear hw4
          rename Hid (Blk (M + 1 + 1) w4 _) => HT0
          rename Hid (Blk w.heap.size w4 (fl4 (ix t))) => HA
          rename Hid (Blk (w.heap.size + 1) w4 (fl4 (ix ⟨0, 0, 0, 0⟩))) => HR
          rename Hid (Blk M w4 (fl4 (mB (F : Int)))) => HM
          rename Hid (Blk (M + 1) w4 (fl4 eB)) => HE
          rename Hid (On w w4) => HO
          clear wr
          rename World => wr
          have hcT := gB_at HT0.out hi4
          have hfT := HT0.out.free i
          have lA := mulF_le (F : Int) (aB (F : Int) (ix t) i 4) (invF (F : Int) 35)
          have lB : x1 (F : Int) t i ≤ 998244353 := lA
          have HC1 := Lib.hid (fun n => rpow_all (F : Int) (x1 (F : Int) t i) (backN (F : Int)) (wr.drewN n) (by omega) (by omega))
          have hce : wr.cell? ⟨M + 1, F, none⟩ = some (.int .u64 ((backN (F : Int) : Nat) : Int)) := HE.out.at4 F hF4
          have HUU : Hid (powF (F : Int) (x1 (F : Int) t i) (backN (F : Int)) = x2 (F : Int) t i) := rfl
          clear lA
          have HT2 : Hid (∀ v, v = x2 (F : Int) t i → Blk (M + 1 + 1) (wr.setCell ⟨M + 1 + 1, i, none⟩ (.int .u64 ((v : Nat) : Int))) (fl4 (gB (x3 (F : Int) r t) i (x2 (F : Int) t i)))) := fun v hv => by subst hv; exact gB_put HT0.out hi4 _
          have HA2 : Hid (∀ u, Blk w.heap.size (wr.setCell ⟨M + 1 + 1, i, none⟩ u) (fl4 (ix t))) := fun u => HA.out.other _ (by simp; try omega) u
          have HR2 : Hid (∀ u, Blk (w.heap.size + 1) (wr.setCell ⟨M + 1 + 1, i, none⟩ u) (fl4 (ix ⟨0, 0, 0, 0⟩))) := fun u => HR.out.other _ (by simp; try omega) u
          have HM2 : Hid (∀ u, Blk M (wr.setCell ⟨M + 1 + 1, i, none⟩ u) (fl4 (mB (F : Int)))) := fun u => HM.out.other _ (by simp; try omega) u
          have HE2 : Hid (∀ u, Blk (M + 1) (wr.setCell ⟨M + 1 + 1, i, none⟩ u) (fl4 eB)) := fun u => HE.out.other _ (by simp; try omega) u
          have HO2 : Hid (∀ u, On w (wr.setCell ⟨M + 1 + 1, i, none⟩ u)) := fun u => HO.out.setCell (by simp; omega) u
          generalize x1 (F : Int) t i = a at *
          generalize hBN : backN (F : Int) = bn at *
          generalize powF (F : Int) a bn = V at *
          go_wp2
          refine region_quiet_tail 10 (by kernel_rfl) (by kernel_rfl) ?_
          simp only [List.take_succ_cons, List.take_zero, List.drop_succ_cons, List.drop_zero]
          repeat (quiet_step ((first | (go_at_call 32; with_reducible exact quiet_of_drawn (HC1.out _)))))
          refine wpQuiet_nil ?_
          intro _ hw'
          obtain ⟨nq, hw''⟩ := hw'
          subst hw''
          have hca2 : (wr.drewN nq).cell? ⟨M + 1 + 1, i, none⟩ = _ := hcT
          have hfa2 : (wr.drewN nq).frozen? ⟨M + 1 + 1, i, none⟩ = false := hfT
          go_upto_region 13 with fail
          have HT3 := Lib.hid ((HT2.out _ HUU.out).drewN nq)
          have HA3 := Lib.hid ((HA2.out (.int .u64 (V : Int))).drewN nq)
          have HR3 := Lib.hid ((HR2.out (.int .u64 (V : Int))).drewN nq)
          have HM3 := Lib.hid ((HM2.out (.int .u64 (V : Int))).drewN nq)
          have HE3 := Lib.hid ((HE2.out (.int .u64 (V : Int))).drewN nq)
          have HO3 := Lib.hid ((HO2.out (.int .u64 (V : Int))).drewN nq)
          clear hca2 hfa2 hcT hfT HT2 HA2 HR2 HM2 HE2 HO2 HT0 HA HR HM HE HO HUU HC1 hce
          generalize hw4 : (wr.drewN nq).setCell ⟨M + 1 + 1, i, none⟩ (.int .u64 (V : Int)) = w4 at *
          rw [show (wr.setCell ⟨M + 1 + 1, i, none⟩ (.int .u64 (V : Int))).drewN nq = w4 from hw4] at HT3 HA3 HR3 HM3 HE3 HO3
          clear hw4
          rename Hid (Blk (M + 1 + 1) w4 _) => HT0
          rename Hid (Blk w.heap.size w4 (fl4 (ix t))) => HA
          rename Hid (Blk (w.heap.size + 1) w4 (fl4 (ix ⟨0, 0, 0, 0⟩))) => HR
          rename Hid (Blk M w4 (fl4 (mB (F : Int)))) => HM
          rename Hid (Blk (M + 1) w4 (fl4 eB)) => HE
          rename Hid (On w w4) => HO
          clear wr
          rename World => wr
          have hcT := gB_at HT0.out hi4
          have hfT := HT0.out.free i
          have lB : x2 (F : Int) t i ≤ 998244353 := powF_le _ _ _
          have lC := cstF_le (F : Int) r i
          have HC1 := Lib.hid (fun n => HCO.out i (wr.drewN n) hi4)
          have HC2 := Lib.hid (fun n => rsub_any (F : Int) (x2 (F : Int) t i) (cstF (F : Int) r i) (wr.drewN n) (by omega) (by omega))
          have HUU : Hid (subF (F : Int) (x2 (F : Int) t i) (cstF (F : Int) r i) = x3 (F : Int) r t i) := rfl
          have HT2 : Hid (∀ v, v = x3 (F : Int) r t i → Blk (M + 1 + 1) (wr.setCell ⟨M + 1 + 1, i, none⟩ (.int .u64 ((v : Nat) : Int))) (fl4 (gB (x3 (F : Int) r t) i (x3 (F : Int) r t i)))) := fun v hv => by subst hv; exact gB_put HT0.out hi4 _
          have HA2 : Hid (∀ u, Blk w.heap.size (wr.setCell ⟨M + 1 + 1, i, none⟩ u) (fl4 (ix t))) := fun u => HA.out.other _ (by simp; try omega) u
          have HR2 : Hid (∀ u, Blk (w.heap.size + 1) (wr.setCell ⟨M + 1 + 1, i, none⟩ u) (fl4 (ix ⟨0, 0, 0, 0⟩))) := fun u => HR.out.other _ (by simp; try omega) u
          have HM2 : Hid (∀ u, Blk M (wr.setCell ⟨M + 1 + 1, i, none⟩ u) (fl4 (mB (F : Int)))) := fun u => HM.out.other _ (by simp; try omega) u
          have HE2 : Hid (∀ u, Blk (M + 1) (wr.setCell ⟨M + 1 + 1, i, none⟩ u) (fl4 eB)) := fun u => HE.out.other _ (by simp; try omega) u
          have HO2 : Hid (∀ u, On w (wr.setCell ⟨M + 1 + 1, i, none⟩ u)) := fun u => HO.out.setCell (by simp; omega) u
          generalize x2 (F : Int) t i = a at *
          generalize cstF (F : Int) r i = cc at *
          generalize subF (F : Int) a cc = V at *
          go_wp2
          refine region_quiet_tail 11 (by kernel_rfl) (by kernel_rfl) ?_
          simp only [List.take_succ_cons, List.take_zero, List.drop_succ_cons, List.drop_zero]
          repeat (quiet_step ((first | (go_at_call 13; with_reducible exact quiet_of_drawn (HC1.out _)) | (go_at_call 53; with_reducible exact quiet_of_drawn (HC2.out _)))))
          refine wpQuiet_nil ?_
          intro _ hw'
          obtain ⟨nq, hw''⟩ := hw'
          subst hw''
          have hca2 : (wr.drewN nq).cell? ⟨M + 1 + 1, i, none⟩ = _ := hcT
          have hfa2 : (wr.drewN nq).frozen? ⟨M + 1 + 1, i, none⟩ = false := hfT
          go_upto_region 6 with fail
          have HT3 := Lib.hid ((HT2.out _ HUU.out).drewN nq)
          have HA3 := Lib.hid ((HA2.out (.int .u64 (V : Int))).drewN nq)
          have HR3 := Lib.hid ((HR2.out (.int .u64 (V : Int))).drewN nq)
          have HM3 := Lib.hid ((HM2.out (.int .u64 (V : Int))).drewN nq)
          have HE3 := Lib.hid ((HE2.out (.int .u64 (V : Int))).drewN nq)
          have HO3 := Lib.hid ((HO2.out (.int .u64 (V : Int))).drewN nq)
          clear hca2 hfa2 hcT hfT HT2 HA2 HR2 HM2 HE2 HO2 HT0 HA HR HM HE HO HUU HC1 HC2
          generalize hw4 : (wr.drewN nq).setCell ⟨M + 1 + 1, i, none⟩ (.int .u64 (V : Int)) = w4 at *
          rw [show (wr.setCell ⟨M + 1 + 1, i, none⟩ (.int .u64 (V : Int))).drewN nq = w4 from hw4] at HT3 HA3 HR3 HM3 HE3 HO3
          clear hw4
          rename Hid (Blk (M + 1 + 1) w4 _) => HT0
          rename Hid (Blk w.heap.size w4 (fl4 (ix t))) => HA
          rename Hid (Blk (w.heap.size + 1) w4 (fl4 (ix ⟨0, 0, 0, 0⟩))) => HR
          rename Hid (Blk M w4 (fl4 (mB (F : Int)))) => HM
          rename Hid (Blk (M + 1) w4 (fl4 eB)) => HE
          rename Hid (On w w4) => HO
          clear wr
          rename World => wr
          go_wp2
          go_roundw
          case rel => exact ⟨i + 1, by omega, by go_num, HT0.out.eq (gB_next _ _), HA, HR, HM, HE, HO⟩
          case measure => simp [intOf]; omega
    · obtain rfl : i = 4 := by omega
      have HF2 := HT0.out.eq ((gB_end _).trans HX.out)
      obtain ⟨z, hz⟩ : ∃ z, z = unS (F : Int) r (modS (F : Int) t) := ⟨_, rfl⟩
      rw [← hz] at HF2
      have HZ := Lib.hid hz
      clear hz
      obtain ⟨c0, c1, c2, c3⟩ := HF2.cells4
      obtain ⟨r0, r1, r2, r3⟩ := HR.out.cells4
      obtain ⟨f0, f1, f2, f3⟩ := HR.out.free4
      have HP := Lib.hid (HR.out.store4 z)
      clear HX HF2 HA HM HE HT0 HR
      go_wp2
      obtain ⟨p0, p1, p2, p3⟩ := HP.out.cells4
      refine bodyPost_ret (v := .agg #[.int .u64 (z.a : Int), .int .u64 (z.b : Int), .int .u64 (z.c : Int), .int .u64 (z.d : Int)]) (by simp [results, Tryd.results41, go_sem, p0, p1, p2, p3]; try rfl) rfl ?_
      exact ⟨by rw [HZ.out], HO.out.store4 (by omega) _ _ _ _⟩
end Go.Proofs.YtbmieoedpgdlpaaDoor
