/- Env, the program's and the document's: what the calls return. -/
import Derived.Test.YtcbckphlpfbohaaDoorKz23
set_option linter.unusedSimpArgs false
set_option linter.unusedVariables false
/- Env, the program's and the document's: what the calls return. -/
namespace Go.Proofs.YtcbckphlpfbohaaDoor
open Go.RowKit Go.Lib
set_option linter.unusedVariables false

/-- What Env says. -/
def envC (S : Sy) (T : Tr) (row : Int) : Int := if fitS S T = true then (if 0 ≤ row ∧ row < (rowN S : Int) then 0 else 2) else 1
def envD (S : Sy) (T : Tr) (row : Int) : En := if fitS S T = true ∧ 0 ≤ row ∧ row < (rowN S : Int) then envS S T row.toNat else ⟨[], [], [], [], [], [], []⟩
def EvO (B : Nat) (V : Ev) : Prop := Off B V.v1 ∧ Off B V.v2 ∧ Off B V.v3 ∧ Off B V.v4 ∧ Off B V.v5 ∧ Off B V.v6 ∧ Off B V.v7
theorem NR.off {w : World} {v : Value} {l : List Nat} {B : Nat} (h : NR w v l) (hB : ∀ cur fz, w.heap[B]? ≠ some (.cells cur 58 fz)) : Off B v := fun b o n c e hn e2 => by
  obtain ⟨cur, fz, hb⟩ := h.2 b o n c e hn
  exact hB cur fz (e2 ▸ hb)
theorem EnT.off {w : World} {V : Ev} {E : En} {B : Nat} (h : EnT w V E) (hB : ∀ cur fz, w.heap[B]? ≠ some (.cells cur 58 fz)) : EvO B V :=
  ⟨h.1.off hB, h.2.1.off hB, h.2.2.1.off hB, h.2.2.2.1.off hB, h.2.2.2.2.1.off hB, h.2.2.2.2.2.1.off hB, h.2.2.2.2.2.2.off hB⟩
theorem EnT.ap {w w' : World} {V : Ev} {E : En} {B : Nat} (h : EnT w V E) (hW : Ap B w w') (hB : EvO B V) : EnT w' V E :=
  ⟨h.1.ap hW hB.1, h.2.1.ap hW hB.2.1, h.2.2.1.ap hW hB.2.2.1, h.2.2.2.1.ap hW hB.2.2.2.1, h.2.2.2.2.1.ap hW hB.2.2.2.2.1, h.2.2.2.2.2.1.ap hW hB.2.2.2.2.2.1, h.2.2.2.2.2.2.ap hW hB.2.2.2.2.2.2⟩
theorem tag_env (w : World) (a : Array Value) : (w.alloc (.cells a 46)).heap[w.heap.size]? = some (.cells a 46 (0, 0)) := by show (w.heap.push _)[w.heap.size]? = _; simp
theorem vb7 {B : Nat} {w : World} {a b c d e f g : Value} (h : VB B w [a, b, c, d, e, f, g]) : w.cell? ⟨B, 0, none⟩ = some a ∧ w.cell? ⟨B, 1, none⟩ = some b ∧ w.cell? ⟨B, 2, none⟩ = some c ∧ w.cell? ⟨B, 3, none⟩ = some d ∧ w.cell? ⟨B, 4, none⟩ = some e ∧ w.cell? ⟨B, 5, none⟩ = some f ∧ w.cell? ⟨B, 6, none⟩ = some g ∧
    w.frozen? ⟨B, 0, none⟩ = false ∧ w.frozen? ⟨B, 1, none⟩ = false ∧ w.frozen? ⟨B, 2, none⟩ = false ∧ w.frozen? ⟨B, 3, none⟩ = false ∧ w.frozen? ⟨B, 4, none⟩ = false ∧ w.frozen? ⟨B, 5, none⟩ = false ∧ w.frozen? ⟨B, 6, none⟩ = false :=
  ⟨h.2.1 0 _ rfl, h.2.1 1 _ rfl, h.2.1 2 _ rfl, h.2.1 3 _ rfl, h.2.1 4 _ rfl, h.2.1 5 _ rfl, h.2.1 6 _ rfl, h.2.2 0, h.2.2 1, h.2.2 2, h.2.2 3, h.2.2 4, h.2.2 5, h.2.2 6⟩
set_option maxHeartbeats 4000000 in
set_option maxRecDepth 100000 in
theorem env13_any (S : Sy) (H : Sh) (T : Tr) (pa ma : Option Addr) (pc mc : Nat) (row : Int) (w : World) (hT : Tab w) (hR : SyR w H S) (hTr : TrR w pa ma pc mc T) (hrow : -9223372036854775808 ≤ row ∧ row ≤ 9223372036854775807) :
    Calls Tryd.prog 26 #[syA S H, .agg #[.slice pa T.pub.length pc, .slice ma T.main.length mc], .int .i64 row] w fun e w' => (∃ V, e = .returned (.tuple #[evA V, .int .i64 (envC S T row)]) ∧ EnT w' V (envD S T row)) ∧ On w w' := by
  obtain ⟨W1, hW1⟩ : ∃ W1, W1 = ((w.alloc (syO S H)).alloc (.cells #[.slice pa T.pub.length pc, .slice ma T.main.length mc] 35)).alloc (.cells #[.slice none 0 0, .slice none 0 0, .slice none 0 0, .slice none 0 0, .slice none 0 0, .slice none 0 0, .slice none 0 0] 46) := ⟨_, rfl⟩
  have hA := (On.refl hT).alloc (syO S H)
  have hB := (On.refl hA.tab).alloc (.cells #[.slice pa T.pub.length pc, .slice ma T.main.length mc] 35)
  have hC := (On.refl hB.tab).alloc (.cells #[.slice none 0 0, .slice none 0 0, .slice none 0 0, .slice none 0 0, .slice none 0 0, .slice none 0 0, .slice none 0 0] 46)
  have hO1 : On w W1 := by rw [hW1]; exact hA.trans (hB.trans hC)
  obtain ⟨Q, hQ⟩ : ∃ Q, Q = w.heap.size := ⟨_, rfl⟩
  have HB0 : Hid (VB Q W1 (syL S H)) := by rw [hW1, hQ]; exact Lib.hid (((vb_newS S H w).on hB).on hC)
  have HB1 : Hid (VB (Q + 1) W1 [.slice pa T.pub.length pc, .slice ma T.main.length mc]) := by
    have h := vb_new (w.alloc (syO S H)) #[.slice pa T.pub.length pc, .slice ma T.main.length mc] 35
    rw [World.size_alloc] at h
    rw [hW1, hQ]; exact Lib.hid (h.on hC)
  have HBE : Hid (VB (Q + 2) W1 [.slice none 0 0, .slice none 0 0, .slice none 0 0, .slice none 0 0, .slice none 0 0, .slice none 0 0, .slice none 0 0]) := by
    have h := vb_new ((w.alloc (syO S H)).alloc (.cells #[.slice pa T.pub.length pc, .slice ma T.main.length mc] 35)) #[.slice none 0 0, .slice none 0 0, .slice none 0 0, .slice none 0 0, .slice none 0 0, .slice none 0 0, .slice none 0 0] 46
    rw [World.size_alloc, World.size_alloc] at h
    rw [hW1, hQ]; exact Lib.hid h
  have HNT : Hid (∀ wq, On W1 wq → ∀ cur fz, wq.heap[Q + 2]? ≠ some (.cells cur 58 fz)) := fun wq h cur fz e => by
    have h1 := tag_env ((w.alloc (syO S H)).alloc (.cells #[.slice pa T.pub.length pc, .slice ma T.main.length mc] 35)) #[.slice none 0 0, .slice none 0 0, .slice none 0 0, .slice none 0 0, .slice none 0 0, .slice none 0 0, .slice none 0 0]
    rw [World.size_alloc, World.size_alloc, ← hQ] at h1
    rw [← hW1] at h1
    have h3 := h.2.block (Q + 2) HBE.out.1
    have h4 := e.symm.trans (h3.trans h1)
    injection h4 with h5
    injection h5 with _ h6 _
    exact absurd h6 (by decide)
  have HSY : Hid (∀ wq, On W1 wq → _) := fun wq h => sy_cells (HB0.out.on h)
  have HTB : Hid (∀ wq, On W1 wq → wq.cell? ⟨Q + 1, 0, none⟩ = some (.slice pa T.pub.length pc) ∧ wq.cell? ⟨Q + 1, 1, none⟩ = some (.slice ma T.main.length mc)) := fun wq h => ⟨(HB1.out.on h).2.1 0 _ rfl, (HB1.out.on h).2.1 1 _ rfl⟩
  have HEB : Hid (∀ wq, On W1 wq → _) := fun wq h => vb7 (HBE.out.on h)
  have HFI := Lib.hid (fits_any S H T pa ma pc mc W1 hO1.tab (hR.on hO1) (hTr.on hO1))
  have HAT : Hid (fitS S T = true → ∀ r : Nat, r < rowN S → ∀ wq, On W1 wq → Calls Tryd.prog 53 #[syA S H, .agg #[.slice pa T.pub.length pc, .slice ma T.main.length mc], .int .i64 (r : Int)] wq fun e w' => (∃ V, e = .returned (evA V) ∧ EnT w' V (envS S T r) ∧ EvO (Q + 2) V) ∧ On W1 w') := Lib.hid fun hf r hr wq h =>
    (environment_any S H T pa ma pc mc r wq h.tab (hR.on (hO1.trans h)) (hTr.on (hO1.trans h)) hf hr).mono fun e w' ⟨⟨V, he, hV⟩, ho⟩ => ⟨⟨V, he, hV, hV.off (HNT.out w' (h.trans ho))⟩, h.trans ho⟩
  have hfv : fitS S T = true → szS S = true := fun hF => by
    unfold fitS valSy at hF
    simp only [Bool.and_eq_true, decide_eq_true_eq] at hF
    exact hF.1.1
  have HO1 := Lib.hid hO1; have HQ := Lib.hid hQ; have HW1 := Lib.hid hW1
  have HOK : Hid (On W1 W1) := Lib.hid (On.refl hO1.tab)
  obtain ⟨q, hq⟩ : ∃ q, q = rowN S := ⟨_, rfl⟩
  have E1 : envC S T row = (if fitS S T = true then (if 0 ≤ row ∧ row < (rowN S : Int) then 0 else 2) else 1) := rfl
  have E2 : envD S T row = (if fitS S T = true ∧ 0 ≤ row ∧ row < (rowN S : Int) then envS S T row.toNat else ⟨[], [], [], [], [], [], []⟩) := rfl
  rw [E1, E2]
  clear E1 E2
  by_cases hF : fitS S T = true
  rotate_left
  · have hF' : fitS S T = false := by simpa using hF
    rw [if_neg hF, if_neg (by intro h; exact hF h.1)]
    rw [hF'] at HFI
    clear hT hR hTr hW1 hA hB hC hO1 hQ HB0 HB1 hq HAT hfv hF hF' HNT
    go_enter Tryd.func26, Tryd.ntmps26
    go_upto_region 1 with fail
    have hQ2 : w.heap.size + 1 + 1 = Q + 2 := by rw [HQ.out]
    rw [← HW1.out, hQ2, ← HQ.out]
    clear hQ2
    obtain ⟨s0, s1, s2, s3, s4, s5, s6, s7⟩ := HSY.out _ HOK.out
    obtain ⟨l0, l1⟩ := HTB.out _ HOK.out
    obtain ⟨q0, q1, q2, q3, q4, q5, q6, z0, z1, z2, z3, z4, z5, z6⟩ := HEB.out _ HOK.out
    go_wp2_with (first
      | (go_at_call 23; (with_reducible refine HFI.out.mono ?_); rintro e w2 ⟨rfl, hO2⟩; obtain ⟨s0, s1, s2, s3, s4, s5, s6, s7⟩ := HSY.out w2 hO2; obtain ⟨l0, l1⟩ := HTB.out w2 hO2; obtain ⟨q0, q1, q2, q3, q4, q5, q6, z0, z1, z2, z3, z4, z5, z6⟩ := HEB.out w2 hO2)
      | fail)
    obtain ⟨X, hX⟩ : ∃ X, X = (((((((w2.setCell ⟨Q + 2, 0, none⟩ (.slice none 0 0)).setCell ⟨Q + 2, 1, none⟩ (.slice none 0 0)).setCell ⟨Q + 2, 2, none⟩ (.slice none 0 0)).setCell ⟨Q + 2, 3, none⟩ (.slice none 0 0)).setCell ⟨Q + 2, 4, none⟩ (.slice none 0 0)).setCell ⟨Q + 2, 5, none⟩ (.slice none 0 0)).setCell ⟨Q + 2, 6, none⟩ (.slice none 0 0)) := ⟨_, rfl⟩
    have HX : VB (Q + 2) X [.slice none 0 0, .slice none 0 0, .slice none 0 0, .slice none 0 0, .slice none 0 0, .slice none 0 0, .slice none 0 0] := by
      rw [hX]; exact (((((((HBE.out.on hO2).set 0 _ (by simp)).set 1 _ (by simp)).set 2 _ (by simp)).set 3 _ (by simp)).set 4 _ (by simp)).set 5 _ (by simp)).set 6 _ (by simp)
    have HAP : Ap (Q + 2) w2 X := by rw [hX]; exact (((((((Ap.refl (Q + 2) w2).setCell _ _).setCell _ _).setCell _ _).setCell _ _).setCell _ _).setCell _ _ |>.setCell _ _)
    have HOX : On w X := by
      have hle : w.heap.size ≤ Q + 2 := by have := HQ.out; omega
      rw [hX]; exact (((((((HO1.out.trans hO2).setCell hle _).setCell hle _).setCell hle _).setCell hle _).setCell hle _).setCell hle _).setCell hle _
    rw [← hX]
    have t0 := HX.2.1 0 _ rfl; have t1 := HX.2.1 1 _ rfl; have t2 := HX.2.1 2 _ rfl; have t3 := HX.2.1 3 _ rfl; have t4 := HX.2.1 4 _ rfl; have t5 := HX.2.1 5 _ rfl; have t6 := HX.2.1 6 _ rfl
    refine bodyPost_ret (v := .tuple #[evA ⟨.slice none 0 0, .slice none 0 0, .slice none 0 0, .slice none 0 0, .slice none 0 0, .slice none 0 0, .slice none 0 0⟩, .int .i64 1]) (by simp [results, Tryd.results26, go_sem, t0, t1, t2, t3, t4, t5, t6]; try rfl) rfl ?_
    exact ⟨⟨_, rfl, NR.nil X, NR.nil X, NR.nil X, NR.nil X, NR.nil X, NR.nil X, NR.nil X⟩, HOX⟩
  have hs := hfv hF
  obtain ⟨hvf, f1, f2, f3, f4, f5, f6, f7, f8, f9, fa, fb⟩ := szS_facts hs
  have hq8 : 2 ≤ q ∧ q ≤ 8192 := by rw [hq]; exact rowN_le hs
  have hsh : wrap64 ((2 : Int) ^ min S.rows.toNat 64) = (q : Int) := by
    rw [show min S.rows.toNat 64 = S.rows.toNat by omega]; exact shl_rows S.rows.toNat q (by omega) hq
  have hK0 : ¬ (S.rows < 0) := by omega
  have HSZ : Hid (∀ wq, On W1 wq → Calls Tryd.prog 44 #[syA S H] wq fun e w' => e = .returned (.int .i64 ((q : Nat) : Int)) ∧ On W1 w') := by rw [hq]; exact Lib.hid fun wq h => (rsize_any S H wq h.tab (by omega) (by omega)).mono fun e w' ⟨he, ho⟩ => ⟨he, h.trans ho⟩
  have HA2 := HAT.out hF
  rw [← hq] at HA2
  rw [if_pos hF, ← hq]
  rw [hF] at HFI
  have hFF : ∀ P : Prop, (fitS S T = true ∧ P) ↔ P := fun P => ⟨fun h => h.2, fun h => ⟨hF, h⟩⟩
  simp only [hFF]
  clear hT hR hTr hW1 hA hB hC hO1 hQ HB0 HB1 hq HAT hfv hF hFF hs hvf f1 f2 f3 f4 f5 f6 f7 f8 f9 fa fb HNT
  by_cases hneg : row < 0
  · rw [if_neg (by omega), if_neg (by omega)]
    clear HA2
    go_enter Tryd.func26, Tryd.ntmps26
    go_upto_region 1 with fail
    have hQ2 : w.heap.size + 1 + 1 = Q + 2 := by rw [HQ.out]
    rw [← HW1.out, hQ2, ← HQ.out]
    clear hQ2
    obtain ⟨s0, s1, s2, s3, s4, s5, s6, s7⟩ := HSY.out _ HOK.out
    obtain ⟨l0, l1⟩ := HTB.out _ HOK.out
    obtain ⟨q0, q1, q2, q3, q4, q5, q6, z0, z1, z2, z3, z4, z5, z6⟩ := HEB.out _ HOK.out
    go_wp2_with (first
      | (go_at_call 23; (with_reducible refine HFI.out.mono ?_); rintro e w2 ⟨rfl, hO2⟩; obtain ⟨s0, s1, s2, s3, s4, s5, s6, s7⟩ := HSY.out w2 hO2; obtain ⟨l0, l1⟩ := HTB.out w2 hO2; obtain ⟨q0, q1, q2, q3, q4, q5, q6, z0, z1, z2, z3, z4, z5, z6⟩ := HEB.out w2 hO2)
      | fail)
    obtain ⟨X, hX⟩ : ∃ X, X = (((((((w2.setCell ⟨Q + 2, 0, none⟩ (.slice none 0 0)).setCell ⟨Q + 2, 1, none⟩ (.slice none 0 0)).setCell ⟨Q + 2, 2, none⟩ (.slice none 0 0)).setCell ⟨Q + 2, 3, none⟩ (.slice none 0 0)).setCell ⟨Q + 2, 4, none⟩ (.slice none 0 0)).setCell ⟨Q + 2, 5, none⟩ (.slice none 0 0)).setCell ⟨Q + 2, 6, none⟩ (.slice none 0 0)) := ⟨_, rfl⟩
    have HX : VB (Q + 2) X [.slice none 0 0, .slice none 0 0, .slice none 0 0, .slice none 0 0, .slice none 0 0, .slice none 0 0, .slice none 0 0] := by
      rw [hX]; exact (((((((HBE.out.on hO2).set 0 _ (by simp)).set 1 _ (by simp)).set 2 _ (by simp)).set 3 _ (by simp)).set 4 _ (by simp)).set 5 _ (by simp)).set 6 _ (by simp)
    have HAP : Ap (Q + 2) w2 X := by rw [hX]; exact (((((((Ap.refl (Q + 2) w2).setCell _ _).setCell _ _).setCell _ _).setCell _ _).setCell _ _).setCell _ _ |>.setCell _ _)
    have HOX : On w X := by
      have hle : w.heap.size ≤ Q + 2 := by have := HQ.out; omega
      rw [hX]; exact (((((((HO1.out.trans hO2).setCell hle _).setCell hle _).setCell hle _).setCell hle _).setCell hle _).setCell hle _).setCell hle _
    rw [← hX]
    have t0 := HX.2.1 0 _ rfl; have t1 := HX.2.1 1 _ rfl; have t2 := HX.2.1 2 _ rfl; have t3 := HX.2.1 3 _ rfl; have t4 := HX.2.1 4 _ rfl; have t5 := HX.2.1 5 _ rfl; have t6 := HX.2.1 6 _ rfl
    refine bodyPost_ret (v := .tuple #[evA ⟨.slice none 0 0, .slice none 0 0, .slice none 0 0, .slice none 0 0, .slice none 0 0, .slice none 0 0, .slice none 0 0⟩, .int .i64 2]) (by simp [results, Tryd.results26, go_sem, t0, t1, t2, t3, t4, t5, t6]; try rfl) rfl ?_
    exact ⟨⟨_, rfl, NR.nil X, NR.nil X, NR.nil X, NR.nil X, NR.nil X, NR.nil X, NR.nil X⟩, HOX⟩
  obtain ⟨r, rfl⟩ : ∃ r : Nat, row = (r : Int) := ⟨row.toNat, by omega⟩
  by_cases hge : q ≤ r
  · rw [if_neg (by omega), if_neg (by omega)]
    clear HA2
    have hge' : (q : Int) ≤ (r : Int) := by omega
    have hsh := Lib.hid hsh
    have hsh := hsh.out
    go_enter Tryd.func26, Tryd.ntmps26
    go_upto_region 1 with fail
    have hQ2 : w.heap.size + 1 + 1 = Q + 2 := by rw [HQ.out]
    rw [← HW1.out, hQ2, ← HQ.out]
    clear hQ2
    obtain ⟨s0, s1, s2, s3, s4, s5, s6, s7⟩ := HSY.out _ HOK.out
    obtain ⟨l0, l1⟩ := HTB.out _ HOK.out
    obtain ⟨q0, q1, q2, q3, q4, q5, q6, z0, z1, z2, z3, z4, z5, z6⟩ := HEB.out _ HOK.out
    go_wp2_with (first
      | (go_at_call 23; (with_reducible refine HFI.out.mono ?_); rintro e w2 ⟨rfl, hO2⟩; obtain ⟨s0, s1, s2, s3, s4, s5, s6, s7⟩ := HSY.out w2 hO2; obtain ⟨l0, l1⟩ := HTB.out w2 hO2; obtain ⟨q0, q1, q2, q3, q4, q5, q6, z0, z1, z2, z3, z4, z5, z6⟩ := HEB.out w2 hO2)
      | fail)
    obtain ⟨X, hX⟩ : ∃ X, X = (((((((w2.setCell ⟨Q + 2, 0, none⟩ (.slice none 0 0)).setCell ⟨Q + 2, 1, none⟩ (.slice none 0 0)).setCell ⟨Q + 2, 2, none⟩ (.slice none 0 0)).setCell ⟨Q + 2, 3, none⟩ (.slice none 0 0)).setCell ⟨Q + 2, 4, none⟩ (.slice none 0 0)).setCell ⟨Q + 2, 5, none⟩ (.slice none 0 0)).setCell ⟨Q + 2, 6, none⟩ (.slice none 0 0)) := ⟨_, rfl⟩
    have HX : VB (Q + 2) X [.slice none 0 0, .slice none 0 0, .slice none 0 0, .slice none 0 0, .slice none 0 0, .slice none 0 0, .slice none 0 0] := by
      rw [hX]; exact (((((((HBE.out.on hO2).set 0 _ (by simp)).set 1 _ (by simp)).set 2 _ (by simp)).set 3 _ (by simp)).set 4 _ (by simp)).set 5 _ (by simp)).set 6 _ (by simp)
    have HAP : Ap (Q + 2) w2 X := by rw [hX]; exact (((((((Ap.refl (Q + 2) w2).setCell _ _).setCell _ _).setCell _ _).setCell _ _).setCell _ _).setCell _ _ |>.setCell _ _)
    have HOX : On w X := by
      have hle : w.heap.size ≤ Q + 2 := by have := HQ.out; omega
      rw [hX]; exact (((((((HO1.out.trans hO2).setCell hle _).setCell hle _).setCell hle _).setCell hle _).setCell hle _).setCell hle _).setCell hle _
    rw [← hX]
    have t0 := HX.2.1 0 _ rfl; have t1 := HX.2.1 1 _ rfl; have t2 := HX.2.1 2 _ rfl; have t3 := HX.2.1 3 _ rfl; have t4 := HX.2.1 4 _ rfl; have t5 := HX.2.1 5 _ rfl; have t6 := HX.2.1 6 _ rfl
    refine bodyPost_ret (v := .tuple #[evA ⟨.slice none 0 0, .slice none 0 0, .slice none 0 0, .slice none 0 0, .slice none 0 0, .slice none 0 0, .slice none 0 0⟩, .int .i64 2]) (by simp [results, Tryd.results26, go_sem, t0, t1, t2, t3, t4, t5, t6]; try rfl) rfl ?_
    exact ⟨⟨_, rfl, NR.nil X, NR.nil X, NR.nil X, NR.nil X, NR.nil X, NR.nil X, NR.nil X⟩, HOX⟩
  have hlt' : (r : Int) < (q : Int) := by omega
  rw [if_pos (by omega), if_pos (by omega), show ((r : Int)).toNat = r by omega]
  have HA3 := Lib.hid (HA2 r (by omega))
  clear HA2
  go_enter Tryd.func26, Tryd.ntmps26
  go_upto_region 1 with fail
  have hQ2 : w.heap.size + 1 + 1 = Q + 2 := by rw [HQ.out]
  rw [← HW1.out, hQ2, ← HQ.out]
  clear hQ2
  obtain ⟨s0, s1, s2, s3, s4, s5, s6, s7⟩ := HSY.out _ HOK.out
  obtain ⟨l0, l1⟩ := HTB.out _ HOK.out
  obtain ⟨q0, q1, q2, q3, q4, q5, q6, z0, z1, z2, z3, z4, z5, z6⟩ := HEB.out _ HOK.out
  go_wp2_with (first
    | (go_at_call 23; (with_reducible refine HFI.out.mono ?_); rintro e w2 ⟨rfl, hO2⟩; obtain ⟨s0, s1, s2, s3, s4, s5, s6, s7⟩ := HSY.out w2 hO2; obtain ⟨l0, l1⟩ := HTB.out w2 hO2; obtain ⟨q0, q1, q2, q3, q4, q5, q6, z0, z1, z2, z3, z4, z5, z6⟩ := HEB.out w2 hO2)
    | (go_at_call 53; (with_reducible refine (HA3.out _ hO2).mono ?_); rintro e w4 ⟨⟨V, rfl, hV, hVo⟩, hO4⟩; obtain ⟨V1, V2, V3, V4, V5, V6, V7⟩ := V; obtain ⟨ua1, uc1, e1⟩ := hV.1.1.shape; obtain ⟨ua2, uc2, e2⟩ := hV.2.1.1.shape; obtain ⟨ua3, uc3, e3⟩ := hV.2.2.1.1.shape; obtain ⟨ua4, uc4, e4⟩ := hV.2.2.2.1.1.shape; obtain ⟨ua5, uc5, e5⟩ := hV.2.2.2.2.1.1.shape; obtain ⟨ua6, uc6, e6⟩ := hV.2.2.2.2.2.1.1.shape; obtain ⟨ua7, uc7, e7⟩ := hV.2.2.2.2.2.2.1.shape; simp only at e1 e2 e3 e4 e5 e6 e7; subst e1 e2 e3 e4 e5 e6 e7; have HVV := Lib.hid hV; have HVO := Lib.hid hVo; clear hV hVo; obtain ⟨q0, q1, q2, q3, q4, q5, q6, z0, z1, z2, z3, z4, z5, z6⟩ := HEB.out w4 hO4)
    | fail)
  obtain ⟨X, hX⟩ : ∃ X, X = (((((((w4.setCell ⟨Q + 2, 0, none⟩ (.slice ua1 (envS S T r).l1.length uc1)).setCell ⟨Q + 2, 1, none⟩ (.slice ua2 (envS S T r).l2.length uc2)).setCell ⟨Q + 2, 2, none⟩ (.slice ua3 (envS S T r).l3.length uc3)).setCell ⟨Q + 2, 3, none⟩ (.slice ua4 (envS S T r).l4.length uc4)).setCell ⟨Q + 2, 4, none⟩ (.slice ua5 (envS S T r).l5.length uc5)).setCell ⟨Q + 2, 5, none⟩ (.slice ua6 (envS S T r).l6.length uc6)).setCell ⟨Q + 2, 6, none⟩ (.slice ua7 (envS S T r).l7.length uc7)) := ⟨_, rfl⟩
  have HX : VB (Q + 2) X [.slice ua1 (envS S T r).l1.length uc1, .slice ua2 (envS S T r).l2.length uc2, .slice ua3 (envS S T r).l3.length uc3, .slice ua4 (envS S T r).l4.length uc4, .slice ua5 (envS S T r).l5.length uc5, .slice ua6 (envS S T r).l6.length uc6, .slice ua7 (envS S T r).l7.length uc7] := by
    rw [hX]; exact (((((((HBE.out.on hO4).set 0 _ (by simp)).set 1 _ (by simp)).set 2 _ (by simp)).set 3 _ (by simp)).set 4 _ (by simp)).set 5 _ (by simp)).set 6 _ (by simp)
  have HAP : Ap (Q + 2) w4 X := by rw [hX]; exact (((((((Ap.refl (Q + 2) w4).setCell _ _).setCell _ _).setCell _ _).setCell _ _).setCell _ _).setCell _ _ |>.setCell _ _)
  have HOX : On w X := by
    have hle : w.heap.size ≤ Q + 2 := by have := HQ.out; omega
    rw [hX]; exact (((((((HO1.out.trans hO4).setCell hle _).setCell hle _).setCell hle _).setCell hle _).setCell hle _).setCell hle _).setCell hle _
  rw [← hX]
  have t0 := HX.2.1 0 _ rfl; have t1 := HX.2.1 1 _ rfl; have t2 := HX.2.1 2 _ rfl; have t3 := HX.2.1 3 _ rfl; have t4 := HX.2.1 4 _ rfl; have t5 := HX.2.1 5 _ rfl; have t6 := HX.2.1 6 _ rfl
  refine bodyPost_ret (v := .tuple #[evA ⟨.slice ua1 (envS S T r).l1.length uc1, .slice ua2 (envS S T r).l2.length uc2, .slice ua3 (envS S T r).l3.length uc3, .slice ua4 (envS S T r).l4.length uc4, .slice ua5 (envS S T r).l5.length uc5, .slice ua6 (envS S T r).l6.length uc6, .slice ua7 (envS S T r).l7.length uc7⟩, .int .i64 0]) (by simp [results, Tryd.results26, go_sem, t0, t1, t2, t3, t4, t5, t6]; try rfl) rfl ?_
  exact ⟨⟨_, rfl, HVV.out.ap HAP HVO.out⟩, HOX⟩
set_option maxHeartbeats 4000000 in
set_option maxRecDepth 100000 in
theorem renv13_any (S : Sy) (H : Sh) (T : Tr) (pa ma : Option Addr) (pc mc : Nat) (row : Int) (w : World) (hT : Tab w) (hR : SyR w H S) (hTr : TrR w pa ma pc mc T) (hrow : -9223372036854775808 ≤ row ∧ row ≤ 9223372036854775807) :
    Calls Tryd.prog 27 #[syA S H, .agg #[.slice pa T.pub.length pc, .slice ma T.main.length mc], .int .i64 row] w fun e w' => (∃ V, e = .returned (.tuple #[evA V, .int .i64 (envC S T row)]) ∧ EnT w' V (envD S T row)) ∧ On w w' := by
  obtain ⟨W1, hW1⟩ : ∃ W1, W1 = ((w.alloc (syO S H)).alloc (.cells #[.slice pa T.pub.length pc, .slice ma T.main.length mc] 35)).alloc (.cells #[.slice none 0 0, .slice none 0 0, .slice none 0 0, .slice none 0 0, .slice none 0 0, .slice none 0 0, .slice none 0 0] 46) := ⟨_, rfl⟩
  have hA := (On.refl hT).alloc (syO S H)
  have hB := (On.refl hA.tab).alloc (.cells #[.slice pa T.pub.length pc, .slice ma T.main.length mc] 35)
  have hC := (On.refl hB.tab).alloc (.cells #[.slice none 0 0, .slice none 0 0, .slice none 0 0, .slice none 0 0, .slice none 0 0, .slice none 0 0, .slice none 0 0] 46)
  have hO1 : On w W1 := by rw [hW1]; exact hA.trans (hB.trans hC)
  obtain ⟨Q, hQ⟩ : ∃ Q, Q = w.heap.size := ⟨_, rfl⟩
  have HB0 : Hid (VB Q W1 (syL S H)) := by rw [hW1, hQ]; exact Lib.hid (((vb_newS S H w).on hB).on hC)
  have HB1 : Hid (VB (Q + 1) W1 [.slice pa T.pub.length pc, .slice ma T.main.length mc]) := by
    have h := vb_new (w.alloc (syO S H)) #[.slice pa T.pub.length pc, .slice ma T.main.length mc] 35
    rw [World.size_alloc] at h
    rw [hW1, hQ]; exact Lib.hid (h.on hC)
  have HBE : Hid (VB (Q + 2) W1 [.slice none 0 0, .slice none 0 0, .slice none 0 0, .slice none 0 0, .slice none 0 0, .slice none 0 0, .slice none 0 0]) := by
    have h := vb_new ((w.alloc (syO S H)).alloc (.cells #[.slice pa T.pub.length pc, .slice ma T.main.length mc] 35)) #[.slice none 0 0, .slice none 0 0, .slice none 0 0, .slice none 0 0, .slice none 0 0, .slice none 0 0, .slice none 0 0] 46
    rw [World.size_alloc, World.size_alloc] at h
    rw [hW1, hQ]; exact Lib.hid h
  have HNT : Hid (∀ wq, On W1 wq → ∀ cur fz, wq.heap[Q + 2]? ≠ some (.cells cur 58 fz)) := fun wq h cur fz e => by
    have h1 := tag_env ((w.alloc (syO S H)).alloc (.cells #[.slice pa T.pub.length pc, .slice ma T.main.length mc] 35)) #[.slice none 0 0, .slice none 0 0, .slice none 0 0, .slice none 0 0, .slice none 0 0, .slice none 0 0, .slice none 0 0]
    rw [World.size_alloc, World.size_alloc, ← hQ] at h1
    rw [← hW1] at h1
    have h3 := h.2.block (Q + 2) HBE.out.1
    have h4 := e.symm.trans (h3.trans h1)
    injection h4 with h5
    injection h5 with _ h6 _
    exact absurd h6 (by decide)
  have HSY : Hid (∀ wq, On W1 wq → _) := fun wq h => sy_cells (HB0.out.on h)
  have HTB : Hid (∀ wq, On W1 wq → wq.cell? ⟨Q + 1, 0, none⟩ = some (.slice pa T.pub.length pc) ∧ wq.cell? ⟨Q + 1, 1, none⟩ = some (.slice ma T.main.length mc)) := fun wq h => ⟨(HB1.out.on h).2.1 0 _ rfl, (HB1.out.on h).2.1 1 _ rfl⟩
  have HEB : Hid (∀ wq, On W1 wq → _) := fun wq h => vb7 (HBE.out.on h)
  have HFI := Lib.hid (rfits_any S H T pa ma pc mc W1 hO1.tab (hR.on hO1) (hTr.on hO1))
  have HAT : Hid (fitS S T = true → ∀ r : Nat, r < rowN S → ∀ wq, On W1 wq → Calls Tryd.prog 60 #[syA S H, .agg #[.slice pa T.pub.length pc, .slice ma T.main.length mc], .int .i64 (r : Int)] wq fun e w' => (∃ V, e = .returned (evA V) ∧ EnT w' V (envS S T r) ∧ EvO (Q + 2) V) ∧ On W1 w') := Lib.hid fun hf r hr wq h =>
    (rat_any S H T pa ma pc mc r wq h.tab (hR.on (hO1.trans h)) (hTr.on (hO1.trans h)) hf hr).mono fun e w' ⟨⟨V, he, hV⟩, ho⟩ => ⟨⟨V, he, hV, hV.off (HNT.out w' (h.trans ho))⟩, h.trans ho⟩
  have hfv : fitS S T = true → szS S = true := fun hF => by
    unfold fitS valSy at hF
    simp only [Bool.and_eq_true, decide_eq_true_eq] at hF
    exact hF.1.1
  have HO1 := Lib.hid hO1; have HQ := Lib.hid hQ; have HW1 := Lib.hid hW1
  have HOK : Hid (On W1 W1) := Lib.hid (On.refl hO1.tab)
  obtain ⟨q, hq⟩ : ∃ q, q = rowN S := ⟨_, rfl⟩
  have E1 : envC S T row = (if fitS S T = true then (if 0 ≤ row ∧ row < (rowN S : Int) then 0 else 2) else 1) := rfl
  have E2 : envD S T row = (if fitS S T = true ∧ 0 ≤ row ∧ row < (rowN S : Int) then envS S T row.toNat else ⟨[], [], [], [], [], [], []⟩) := rfl
  rw [E1, E2]
  clear E1 E2
  by_cases hF : fitS S T = true
  rotate_left
  · have hF' : fitS S T = false := by simpa using hF
    rw [if_neg hF, if_neg (by intro h; exact hF h.1)]
    rw [hF'] at HFI
    clear hT hR hTr hW1 hA hB hC hO1 hQ HB0 HB1 hq HAT hfv hF hF' HNT
    go_enter Tryd.func27, Tryd.ntmps27
    go_upto_region 1 with fail
    have hQ2 : w.heap.size + 1 + 1 = Q + 2 := by rw [HQ.out]
    rw [← HW1.out, hQ2, ← HQ.out]
    clear hQ2
    obtain ⟨s0, s1, s2, s3, s4, s5, s6, s7⟩ := HSY.out _ HOK.out
    obtain ⟨l0, l1⟩ := HTB.out _ HOK.out
    obtain ⟨q0, q1, q2, q3, q4, q5, q6, z0, z1, z2, z3, z4, z5, z6⟩ := HEB.out _ HOK.out
    go_wp2_with (first
      | (go_at_call 24; (with_reducible refine HFI.out.mono ?_); rintro e w2 ⟨rfl, hO2⟩; obtain ⟨s0, s1, s2, s3, s4, s5, s6, s7⟩ := HSY.out w2 hO2; obtain ⟨l0, l1⟩ := HTB.out w2 hO2; obtain ⟨q0, q1, q2, q3, q4, q5, q6, z0, z1, z2, z3, z4, z5, z6⟩ := HEB.out w2 hO2)
      | (go_at_call 44; (with_reducible refine (HSZ.out _ hO2).mono ?_); rintro e w3 ⟨rfl, hO3⟩; obtain ⟨s0, s1, s2, s3, s4, s5, s6, s7⟩ := HSY.out w3 hO3; obtain ⟨l0, l1⟩ := HTB.out w3 hO3; obtain ⟨q0, q1, q2, q3, q4, q5, q6, z0, z1, z2, z3, z4, z5, z6⟩ := HEB.out w3 hO3)
      | fail)
    obtain ⟨X, hX⟩ : ∃ X, X = (((((((w2.setCell ⟨Q + 2, 0, none⟩ (.slice none 0 0)).setCell ⟨Q + 2, 1, none⟩ (.slice none 0 0)).setCell ⟨Q + 2, 2, none⟩ (.slice none 0 0)).setCell ⟨Q + 2, 3, none⟩ (.slice none 0 0)).setCell ⟨Q + 2, 4, none⟩ (.slice none 0 0)).setCell ⟨Q + 2, 5, none⟩ (.slice none 0 0)).setCell ⟨Q + 2, 6, none⟩ (.slice none 0 0)) := ⟨_, rfl⟩
    have HX : VB (Q + 2) X [.slice none 0 0, .slice none 0 0, .slice none 0 0, .slice none 0 0, .slice none 0 0, .slice none 0 0, .slice none 0 0] := by
      rw [hX]; exact (((((((HBE.out.on hO2).set 0 _ (by simp)).set 1 _ (by simp)).set 2 _ (by simp)).set 3 _ (by simp)).set 4 _ (by simp)).set 5 _ (by simp)).set 6 _ (by simp)
    have HAP : Ap (Q + 2) w2 X := by rw [hX]; exact (((((((Ap.refl (Q + 2) w2).setCell _ _).setCell _ _).setCell _ _).setCell _ _).setCell _ _).setCell _ _ |>.setCell _ _)
    have HOX : On w X := by
      have hle : w.heap.size ≤ Q + 2 := by have := HQ.out; omega
      rw [hX]; exact (((((((HO1.out.trans hO2).setCell hle _).setCell hle _).setCell hle _).setCell hle _).setCell hle _).setCell hle _).setCell hle _
    rw [← hX]
    have t0 := HX.2.1 0 _ rfl; have t1 := HX.2.1 1 _ rfl; have t2 := HX.2.1 2 _ rfl; have t3 := HX.2.1 3 _ rfl; have t4 := HX.2.1 4 _ rfl; have t5 := HX.2.1 5 _ rfl; have t6 := HX.2.1 6 _ rfl
    refine bodyPost_ret (v := .tuple #[evA ⟨.slice none 0 0, .slice none 0 0, .slice none 0 0, .slice none 0 0, .slice none 0 0, .slice none 0 0, .slice none 0 0⟩, .int .i64 1]) (by simp [results, Tryd.results27, go_sem, t0, t1, t2, t3, t4, t5, t6]; try rfl) rfl ?_
    exact ⟨⟨_, rfl, NR.nil X, NR.nil X, NR.nil X, NR.nil X, NR.nil X, NR.nil X, NR.nil X⟩, HOX⟩
  have hs := hfv hF
  obtain ⟨hvf, f1, f2, f3, f4, f5, f6, f7, f8, f9, fa, fb⟩ := szS_facts hs
  have hq8 : 2 ≤ q ∧ q ≤ 8192 := by rw [hq]; exact rowN_le hs
  have hsh : wrap64 ((2 : Int) ^ min S.rows.toNat 64) = (q : Int) := by
    rw [show min S.rows.toNat 64 = S.rows.toNat by omega]; exact shl_rows S.rows.toNat q (by omega) hq
  have hK0 : ¬ (S.rows < 0) := by omega
  have HSZ : Hid (∀ wq, On W1 wq → Calls Tryd.prog 44 #[syA S H] wq fun e w' => e = .returned (.int .i64 ((q : Nat) : Int)) ∧ On W1 w') := by rw [hq]; exact Lib.hid fun wq h => (rsize_any S H wq h.tab (by omega) (by omega)).mono fun e w' ⟨he, ho⟩ => ⟨he, h.trans ho⟩
  have HA2 := HAT.out hF
  rw [← hq] at HA2
  rw [if_pos hF, ← hq]
  rw [hF] at HFI
  have hFF : ∀ P : Prop, (fitS S T = true ∧ P) ↔ P := fun P => ⟨fun h => h.2, fun h => ⟨hF, h⟩⟩
  simp only [hFF]
  clear hT hR hTr hW1 hA hB hC hO1 hQ HB0 HB1 hq HAT hfv hF hFF hs hvf f1 f2 f3 f4 f5 f6 f7 f8 f9 fa fb HNT
  by_cases hneg : row < 0
  · rw [if_neg (by omega), if_neg (by omega)]
    clear HA2
    go_enter Tryd.func27, Tryd.ntmps27
    go_upto_region 1 with fail
    have hQ2 : w.heap.size + 1 + 1 = Q + 2 := by rw [HQ.out]
    rw [← HW1.out, hQ2, ← HQ.out]
    clear hQ2
    obtain ⟨s0, s1, s2, s3, s4, s5, s6, s7⟩ := HSY.out _ HOK.out
    obtain ⟨l0, l1⟩ := HTB.out _ HOK.out
    obtain ⟨q0, q1, q2, q3, q4, q5, q6, z0, z1, z2, z3, z4, z5, z6⟩ := HEB.out _ HOK.out
    go_wp2_with (first
      | (go_at_call 24; (with_reducible refine HFI.out.mono ?_); rintro e w2 ⟨rfl, hO2⟩; obtain ⟨s0, s1, s2, s3, s4, s5, s6, s7⟩ := HSY.out w2 hO2; obtain ⟨l0, l1⟩ := HTB.out w2 hO2; obtain ⟨q0, q1, q2, q3, q4, q5, q6, z0, z1, z2, z3, z4, z5, z6⟩ := HEB.out w2 hO2)
      | (go_at_call 44; (with_reducible refine (HSZ.out _ hO2).mono ?_); rintro e w3 ⟨rfl, hO3⟩; obtain ⟨s0, s1, s2, s3, s4, s5, s6, s7⟩ := HSY.out w3 hO3; obtain ⟨l0, l1⟩ := HTB.out w3 hO3; obtain ⟨q0, q1, q2, q3, q4, q5, q6, z0, z1, z2, z3, z4, z5, z6⟩ := HEB.out w3 hO3)
      | fail)
    obtain ⟨X, hX⟩ : ∃ X, X = (((((((w2.setCell ⟨Q + 2, 0, none⟩ (.slice none 0 0)).setCell ⟨Q + 2, 1, none⟩ (.slice none 0 0)).setCell ⟨Q + 2, 2, none⟩ (.slice none 0 0)).setCell ⟨Q + 2, 3, none⟩ (.slice none 0 0)).setCell ⟨Q + 2, 4, none⟩ (.slice none 0 0)).setCell ⟨Q + 2, 5, none⟩ (.slice none 0 0)).setCell ⟨Q + 2, 6, none⟩ (.slice none 0 0)) := ⟨_, rfl⟩
    have HX : VB (Q + 2) X [.slice none 0 0, .slice none 0 0, .slice none 0 0, .slice none 0 0, .slice none 0 0, .slice none 0 0, .slice none 0 0] := by
      rw [hX]; exact (((((((HBE.out.on hO2).set 0 _ (by simp)).set 1 _ (by simp)).set 2 _ (by simp)).set 3 _ (by simp)).set 4 _ (by simp)).set 5 _ (by simp)).set 6 _ (by simp)
    have HAP : Ap (Q + 2) w2 X := by rw [hX]; exact (((((((Ap.refl (Q + 2) w2).setCell _ _).setCell _ _).setCell _ _).setCell _ _).setCell _ _).setCell _ _ |>.setCell _ _)
    have HOX : On w X := by
      have hle : w.heap.size ≤ Q + 2 := by have := HQ.out; omega
      rw [hX]; exact (((((((HO1.out.trans hO2).setCell hle _).setCell hle _).setCell hle _).setCell hle _).setCell hle _).setCell hle _).setCell hle _
    rw [← hX]
    have t0 := HX.2.1 0 _ rfl; have t1 := HX.2.1 1 _ rfl; have t2 := HX.2.1 2 _ rfl; have t3 := HX.2.1 3 _ rfl; have t4 := HX.2.1 4 _ rfl; have t5 := HX.2.1 5 _ rfl; have t6 := HX.2.1 6 _ rfl
    refine bodyPost_ret (v := .tuple #[evA ⟨.slice none 0 0, .slice none 0 0, .slice none 0 0, .slice none 0 0, .slice none 0 0, .slice none 0 0, .slice none 0 0⟩, .int .i64 2]) (by simp [results, Tryd.results27, go_sem, t0, t1, t2, t3, t4, t5, t6]; try rfl) rfl ?_
    exact ⟨⟨_, rfl, NR.nil X, NR.nil X, NR.nil X, NR.nil X, NR.nil X, NR.nil X, NR.nil X⟩, HOX⟩
  obtain ⟨r, rfl⟩ : ∃ r : Nat, row = (r : Int) := ⟨row.toNat, by omega⟩
  by_cases hge : q ≤ r
  · rw [if_neg (by omega), if_neg (by omega)]
    clear HA2
    have hge' : (q : Int) ≤ (r : Int) := by omega
    have hsh := Lib.hid hsh
    have hsh := hsh.out
    go_enter Tryd.func27, Tryd.ntmps27
    go_upto_region 1 with fail
    have hQ2 : w.heap.size + 1 + 1 = Q + 2 := by rw [HQ.out]
    rw [← HW1.out, hQ2, ← HQ.out]
    clear hQ2
    obtain ⟨s0, s1, s2, s3, s4, s5, s6, s7⟩ := HSY.out _ HOK.out
    obtain ⟨l0, l1⟩ := HTB.out _ HOK.out
    obtain ⟨q0, q1, q2, q3, q4, q5, q6, z0, z1, z2, z3, z4, z5, z6⟩ := HEB.out _ HOK.out
    go_wp2_with (first
      | (go_at_call 24; (with_reducible refine HFI.out.mono ?_); rintro e w2 ⟨rfl, hO2⟩; obtain ⟨s0, s1, s2, s3, s4, s5, s6, s7⟩ := HSY.out w2 hO2; obtain ⟨l0, l1⟩ := HTB.out w2 hO2; obtain ⟨q0, q1, q2, q3, q4, q5, q6, z0, z1, z2, z3, z4, z5, z6⟩ := HEB.out w2 hO2)
      | (go_at_call 44; (with_reducible refine (HSZ.out _ hO2).mono ?_); rintro e w3 ⟨rfl, hO3⟩; obtain ⟨s0, s1, s2, s3, s4, s5, s6, s7⟩ := HSY.out w3 hO3; obtain ⟨l0, l1⟩ := HTB.out w3 hO3; obtain ⟨q0, q1, q2, q3, q4, q5, q6, z0, z1, z2, z3, z4, z5, z6⟩ := HEB.out w3 hO3)
      | fail)
    obtain ⟨X, hX⟩ : ∃ X, X = (((((((w3.setCell ⟨Q + 2, 0, none⟩ (.slice none 0 0)).setCell ⟨Q + 2, 1, none⟩ (.slice none 0 0)).setCell ⟨Q + 2, 2, none⟩ (.slice none 0 0)).setCell ⟨Q + 2, 3, none⟩ (.slice none 0 0)).setCell ⟨Q + 2, 4, none⟩ (.slice none 0 0)).setCell ⟨Q + 2, 5, none⟩ (.slice none 0 0)).setCell ⟨Q + 2, 6, none⟩ (.slice none 0 0)) := ⟨_, rfl⟩
    have HX : VB (Q + 2) X [.slice none 0 0, .slice none 0 0, .slice none 0 0, .slice none 0 0, .slice none 0 0, .slice none 0 0, .slice none 0 0] := by
      rw [hX]; exact (((((((HBE.out.on hO3).set 0 _ (by simp)).set 1 _ (by simp)).set 2 _ (by simp)).set 3 _ (by simp)).set 4 _ (by simp)).set 5 _ (by simp)).set 6 _ (by simp)
    have HAP : Ap (Q + 2) w3 X := by rw [hX]; exact (((((((Ap.refl (Q + 2) w3).setCell _ _).setCell _ _).setCell _ _).setCell _ _).setCell _ _).setCell _ _ |>.setCell _ _)
    have HOX : On w X := by
      have hle : w.heap.size ≤ Q + 2 := by have := HQ.out; omega
      rw [hX]; exact (((((((HO1.out.trans hO3).setCell hle _).setCell hle _).setCell hle _).setCell hle _).setCell hle _).setCell hle _).setCell hle _
    rw [← hX]
    have t0 := HX.2.1 0 _ rfl; have t1 := HX.2.1 1 _ rfl; have t2 := HX.2.1 2 _ rfl; have t3 := HX.2.1 3 _ rfl; have t4 := HX.2.1 4 _ rfl; have t5 := HX.2.1 5 _ rfl; have t6 := HX.2.1 6 _ rfl
    refine bodyPost_ret (v := .tuple #[evA ⟨.slice none 0 0, .slice none 0 0, .slice none 0 0, .slice none 0 0, .slice none 0 0, .slice none 0 0, .slice none 0 0⟩, .int .i64 2]) (by simp [results, Tryd.results27, go_sem, t0, t1, t2, t3, t4, t5, t6]; try rfl) rfl ?_
    exact ⟨⟨_, rfl, NR.nil X, NR.nil X, NR.nil X, NR.nil X, NR.nil X, NR.nil X, NR.nil X⟩, HOX⟩
  have hlt' : (r : Int) < (q : Int) := by omega
  rw [if_pos (by omega), if_pos (by omega), show ((r : Int)).toNat = r by omega]
  have HA3 := Lib.hid (HA2 r (by omega))
  clear HA2
  go_enter Tryd.func27, Tryd.ntmps27
  go_upto_region 1 with fail
  have hQ2 : w.heap.size + 1 + 1 = Q + 2 := by rw [HQ.out]
  rw [← HW1.out, hQ2, ← HQ.out]
  clear hQ2
  obtain ⟨s0, s1, s2, s3, s4, s5, s6, s7⟩ := HSY.out _ HOK.out
  obtain ⟨l0, l1⟩ := HTB.out _ HOK.out
  obtain ⟨q0, q1, q2, q3, q4, q5, q6, z0, z1, z2, z3, z4, z5, z6⟩ := HEB.out _ HOK.out
  go_wp2_with (first
    | (go_at_call 24; (with_reducible refine HFI.out.mono ?_); rintro e w2 ⟨rfl, hO2⟩; obtain ⟨s0, s1, s2, s3, s4, s5, s6, s7⟩ := HSY.out w2 hO2; obtain ⟨l0, l1⟩ := HTB.out w2 hO2; obtain ⟨q0, q1, q2, q3, q4, q5, q6, z0, z1, z2, z3, z4, z5, z6⟩ := HEB.out w2 hO2)
    | (go_at_call 44; (with_reducible refine (HSZ.out _ hO2).mono ?_); rintro e w3 ⟨rfl, hO3⟩; obtain ⟨s0, s1, s2, s3, s4, s5, s6, s7⟩ := HSY.out w3 hO3; obtain ⟨l0, l1⟩ := HTB.out w3 hO3; obtain ⟨q0, q1, q2, q3, q4, q5, q6, z0, z1, z2, z3, z4, z5, z6⟩ := HEB.out w3 hO3)
    | (go_at_call 60; (with_reducible refine (HA3.out _ hO3).mono ?_); rintro e w4 ⟨⟨V, rfl, hV, hVo⟩, hO4⟩; obtain ⟨V1, V2, V3, V4, V5, V6, V7⟩ := V; obtain ⟨ua1, uc1, e1⟩ := hV.1.1.shape; obtain ⟨ua2, uc2, e2⟩ := hV.2.1.1.shape; obtain ⟨ua3, uc3, e3⟩ := hV.2.2.1.1.shape; obtain ⟨ua4, uc4, e4⟩ := hV.2.2.2.1.1.shape; obtain ⟨ua5, uc5, e5⟩ := hV.2.2.2.2.1.1.shape; obtain ⟨ua6, uc6, e6⟩ := hV.2.2.2.2.2.1.1.shape; obtain ⟨ua7, uc7, e7⟩ := hV.2.2.2.2.2.2.1.shape; simp only at e1 e2 e3 e4 e5 e6 e7; subst e1 e2 e3 e4 e5 e6 e7; have HVV := Lib.hid hV; have HVO := Lib.hid hVo; clear hV hVo; obtain ⟨q0, q1, q2, q3, q4, q5, q6, z0, z1, z2, z3, z4, z5, z6⟩ := HEB.out w4 hO4)
    | fail)
  obtain ⟨X, hX⟩ : ∃ X, X = (((((((w4.setCell ⟨Q + 2, 0, none⟩ (.slice ua1 (envS S T r).l1.length uc1)).setCell ⟨Q + 2, 1, none⟩ (.slice ua2 (envS S T r).l2.length uc2)).setCell ⟨Q + 2, 2, none⟩ (.slice ua3 (envS S T r).l3.length uc3)).setCell ⟨Q + 2, 3, none⟩ (.slice ua4 (envS S T r).l4.length uc4)).setCell ⟨Q + 2, 4, none⟩ (.slice ua5 (envS S T r).l5.length uc5)).setCell ⟨Q + 2, 5, none⟩ (.slice ua6 (envS S T r).l6.length uc6)).setCell ⟨Q + 2, 6, none⟩ (.slice ua7 (envS S T r).l7.length uc7)) := ⟨_, rfl⟩
  have HX : VB (Q + 2) X [.slice ua1 (envS S T r).l1.length uc1, .slice ua2 (envS S T r).l2.length uc2, .slice ua3 (envS S T r).l3.length uc3, .slice ua4 (envS S T r).l4.length uc4, .slice ua5 (envS S T r).l5.length uc5, .slice ua6 (envS S T r).l6.length uc6, .slice ua7 (envS S T r).l7.length uc7] := by
    rw [hX]; exact (((((((HBE.out.on hO4).set 0 _ (by simp)).set 1 _ (by simp)).set 2 _ (by simp)).set 3 _ (by simp)).set 4 _ (by simp)).set 5 _ (by simp)).set 6 _ (by simp)
  have HAP : Ap (Q + 2) w4 X := by rw [hX]; exact (((((((Ap.refl (Q + 2) w4).setCell _ _).setCell _ _).setCell _ _).setCell _ _).setCell _ _).setCell _ _ |>.setCell _ _)
  have HOX : On w X := by
    have hle : w.heap.size ≤ Q + 2 := by have := HQ.out; omega
    rw [hX]; exact (((((((HO1.out.trans hO4).setCell hle _).setCell hle _).setCell hle _).setCell hle _).setCell hle _).setCell hle _).setCell hle _
  rw [← hX]
  have t0 := HX.2.1 0 _ rfl; have t1 := HX.2.1 1 _ rfl; have t2 := HX.2.1 2 _ rfl; have t3 := HX.2.1 3 _ rfl; have t4 := HX.2.1 4 _ rfl; have t5 := HX.2.1 5 _ rfl; have t6 := HX.2.1 6 _ rfl
  refine bodyPost_ret (v := .tuple #[evA ⟨.slice ua1 (envS S T r).l1.length uc1, .slice ua2 (envS S T r).l2.length uc2, .slice ua3 (envS S T r).l3.length uc3, .slice ua4 (envS S T r).l4.length uc4, .slice ua5 (envS S T r).l5.length uc5, .slice ua6 (envS S T r).l6.length uc6, .slice ua7 (envS S T r).l7.length uc7⟩, .int .i64 0]) (by simp [results, Tryd.results27, go_sem, t0, t1, t2, t3, t4, t5, t6]; try rfl) rfl ?_
  exact ⟨⟨_, rfl, HVV.out.ap HAP HVO.out⟩, HOX⟩
end Go.Proofs.YtcbckphlpfbohaaDoor

/- SystemEnvs: the walk. -/
namespace Go.Proofs.YtcbckphlpfbohaaDoor
open Go.RowKit Go.Lib
set_option linter.unusedVariables false

theorem envD_nil (S : Sy) (T : Tr) (row : Int) : (envD S T row).l5 = [] ∧ (envD S T row).l6 = [] ∧ (envD S T row).l7 = [] := by
  unfold envD envS; split <;> exact ⟨rfl, rfl, rfl⟩
set_option maxHeartbeats 8000000 in
set_option maxRecDepth 100000 in
theorem senvs_any (S : Sy) (a1 a2 a3 a4 : Option Addr) (k1 k2 k3 k4 : Nat) (T : Tr) (pa ma : Option Addr) (pc mc : Nat) (row : Int) (w : World) (hT : Tab w) (hR : SyR w ⟨a1, a2, a3, a4, k1, k2, k3, k4⟩ S) (hTr : TrR w pa ma pc mc T) (hrow : -9223372036854775808 ≤ row ∧ row ≤ 9223372036854775807) :
    Calls Tryd.prog 5 #[syA S ⟨a1, a2, a3, a4, k1, k2, k3, k4⟩, .agg #[.slice pa T.pub.length pc, .slice ma T.main.length mc], .int .i64 row] w fun e w' => e = .returned (.bool true) ∧ On w w' := by
  obtain ⟨W0, hW0⟩ : ∃ W0, W0 = (w.alloc (syO S ⟨a1, a2, a3, a4, k1, k2, k3, k4⟩)).alloc (.cells #[.slice pa T.pub.length pc, .slice ma T.main.length mc] 35) := ⟨_, rfl⟩
  have hO0 : On w W0 := by rw [hW0]; exact ((On.refl hT).alloc _).alloc _
  obtain ⟨Q, hQ⟩ : ∃ Q, Q = w.heap.size := ⟨_, rfl⟩
  have HB0 : Hid (VB Q W0 (syL S ⟨a1, a2, a3, a4, k1, k2, k3, k4⟩)) := by rw [hW0, hQ]; exact Lib.hid ((vb_newS S _ w).on ((On.refl ((On.refl hT).alloc _).tab).alloc _))
  have HB1 : Hid (VB (Q + 1) W0 [.slice pa T.pub.length pc, .slice ma T.main.length mc]) := by
    have h := vb_new (w.alloc (syO S ⟨a1, a2, a3, a4, k1, k2, k3, k4⟩)) #[.slice pa T.pub.length pc, .slice ma T.main.length mc] 35
    rw [World.size_alloc] at h
    rw [hW0, hQ]; exact Lib.hid h
  have HSY : Hid (∀ wq, On W0 wq → _) := fun wq h => sy_cells (HB0.out.on h)
  have HTB : Hid (∀ wq, On W0 wq → wq.cell? ⟨Q + 1, 0, none⟩ = some (.slice pa T.pub.length pc) ∧ wq.cell? ⟨Q + 1, 1, none⟩ = some (.slice ma T.main.length mc)) := fun wq h => ⟨(HB1.out.on h).2.1 0 _ rfl, (HB1.out.on h).2.1 1 _ rfl⟩
  have HOK : Hid (On W0 W0) := On.refl hO0.tab
  have HSM : Hid (∀ wq, On W0 wq → Calls Tryd.prog 10 #[syA S ⟨a1, a2, a3, a4, k1, k2, k3, k4⟩] wq fun e w' => (∃ b : Bool, e = .returned (.bool b)) ∧ On W0 w') := fun wq h => (small_any S a1 a2 a3 a4 k1 k2 k3 k4 wq h.tab (hR.on (hO0.trans h))).mono fun e w' ⟨he, ho⟩ => ⟨he, h.trans ho⟩
  have HSH : Hid (∀ wq, On W0 wq → Calls Tryd.prog 19 #[.agg #[.slice pa T.pub.length pc, .slice ma T.main.length mc]] wq fun e w' => (∃ b : Bool, e = .returned (.bool b)) ∧ On W0 w') := fun wq h => (short_any T pa ma pc mc wq h.tab (hTr.on (hO0.trans h))).mono fun e w' ⟨he, ho⟩ => ⟨he, h.trans ho⟩
  have HLV : Hid (∀ wq, On W0 wq → Calls Tryd.prog 11 #[] wq fun e w' => e = .returned (.bool true) ∧ On W0 w') := fun wq h => (live_any wq h.tab).mono fun e w' ⟨he, ho⟩ => ⟨he, h.trans ho⟩
  have HEA : Hid (∀ wq, On W0 wq → Calls Tryd.prog 26 #[syA S ⟨a1, a2, a3, a4, k1, k2, k3, k4⟩, .agg #[.slice pa T.pub.length pc, .slice ma T.main.length mc], .int .i64 row] wq fun e w' => (∃ V, e = .returned (.tuple #[evA V, .int .i64 (envC S T row)]) ∧ EnT w' V (envD S T row)) ∧ On wq w') := fun wq h => env13_any S _ T pa ma pc mc row wq h.tab (hR.on (hO0.trans h)) (hTr.on (hO0.trans h)) hrow
  have HEB : Hid (∀ wq, On W0 wq → Calls Tryd.prog 27 #[syA S ⟨a1, a2, a3, a4, k1, k2, k3, k4⟩, .agg #[.slice pa T.pub.length pc, .slice ma T.main.length mc], .int .i64 row] wq fun e w' => (∃ V, e = .returned (.tuple #[evA V, .int .i64 (envC S T row)]) ∧ EnT w' V (envD S T row)) ∧ On wq w') := fun wq h => renv13_any S _ T pa ma pc mc row wq h.tab (hR.on (hO0.trans h)) (hTr.on (hO0.trans h)) hrow
  have HW0 := Lib.hid hW0; have HQ := Lib.hid hQ; have HO0 := Lib.hid hO0
  obtain ⟨hn5, hn6, hn7⟩ := envD_nil S T row
  obtain ⟨E, hD⟩ : ∃ E, envD S T row = E := ⟨_, rfl⟩
  obtain ⟨L1, L2, L3, L4, L5, L6, L7⟩ := E
  rw [hD] at hn5 hn6 hn7 HEA HEB
  simp only at hn5 hn6 hn7
  subst hn5 hn6 hn7
  generalize envC S T row = c at *
  have HCC : Hid ((c == c) = true) := by unfold Hid; simp
  clear hT hR hTr hW0 hQ hO0 HB0 HB1 hD hrow
  go_enter Tryd.func5, Tryd.ntmps5
  go_upto_region 1 with fail
  rw [← HW0.out, ← HQ.out]
  obtain ⟨s0, s1, s2, s3, s4, s5, s6, s7⟩ := HSY.out _ HOK.out
  obtain ⟨l0, l1⟩ := HTB.out _ HOK.out
  go_wp2_with (first
    | (go_at_call 10; (with_reducible refine (HSM.out _ HOK.out).mono ?_); rintro e w1 ⟨⟨b, rfl⟩, hO1⟩; obtain ⟨s0, s1, s2, s3, s4, s5, s6, s7⟩ := HSY.out w1 hO1; obtain ⟨l0, l1⟩ := HTB.out w1 hO1)
    | (go_at_call 19; (with_reducible refine (HSH.out _ hO1).mono ?_); rintro e w2 ⟨⟨b2, rfl⟩, hO2⟩; obtain ⟨s0, s1, s2, s3, s4, s5, s6, s7⟩ := HSY.out w2 hO2; obtain ⟨l0, l1⟩ := HTB.out w2 hO2)
    | (go_at_call 11; (with_reducible refine (HLV.out _ hO2).mono ?_); rintro e w3 ⟨rfl, hO3⟩)
    | (go_at_call 11; (with_reducible refine (HLV.out _ hO1).mono ?_); rintro e w3 ⟨rfl, hO3⟩)
    | fail)
  all_goals first
    | (go_ret; exact ⟨rfl, HO0.out.trans hO3⟩)
    | skip
  go_upto_region 4 with (first
    | (go_at_call 26; (with_reducible refine (HEA.out _ hO2).mono ?_); rintro e wa ⟨⟨V, rfl, hV⟩, hwa⟩; obtain ⟨V1, V2, V3, V4, V5, V6, V7⟩ := V; obtain ⟨g1, g2, g3, g4, g5, g6, g7⟩ := hV; obtain ⟨ua1, uc1, e1⟩ := g1.1.shape; obtain ⟨ua2, uc2, e2⟩ := g2.1.shape; obtain ⟨ua3, uc3, e3⟩ := g3.1.shape; obtain ⟨ua4, uc4, e4⟩ := g4.1.shape; obtain ⟨ua5, uc5, e5⟩ := g5.1.shape; obtain ⟨ua6, uc6, e6⟩ := g6.1.shape; obtain ⟨ua7, uc7, e7⟩ := g7.1.shape; simp only at e1 e2 e3 e4; simp only [List.length_nil] at e5 e6 e7; subst e1 e2 e3 e4 e5 e6 e7; simp only at g1 g2 g3 g4 g5 g6 g7; have UG1 := Lib.hid g1; have UG2 := Lib.hid g2; have UG3 := Lib.hid g3; have UG4 := Lib.hid g4; have UG5 := Lib.hid g5; have UG6 := Lib.hid g6; have UG7 := Lib.hid g7; clear g1 g2 g3 g4 g5 g6 g7; obtain ⟨q0, q1, q2, q3, q4, q5, q6, z0, z1, z2, z3, z4, z5, z6⟩ := vb7 (vb_new wa #[.slice none 0 0, .slice none 0 0, .slice none 0 0, .slice none 0 0, .slice none 0 0, .slice none 0 0, .slice none 0 0] 46))
    | fail)
  obtain ⟨X, hX⟩ : ∃ X, X = (wa.alloc (.cells #[.slice ua1 L1.length uc1, .slice ua2 L2.length uc2, .slice ua3 L3.length uc3, .slice ua4 L4.length uc4, .slice ua5 0 uc5, .slice ua6 0 uc6, .slice ua7 0 uc7] 46)) := ⟨_, rfl⟩
  rw [← hX]
  have HXB : Hid (VB wa.heap.size X [.slice ua1 L1.length uc1, .slice ua2 L2.length uc2, .slice ua3 L3.length uc3, .slice ua4 L4.length uc4, .slice ua5 0 uc5, .slice ua6 0 uc6, .slice ua7 0 uc7]) := by
    rw [hX]; exact Lib.hid (vb_new wa #[.slice ua1 L1.length uc1, .slice ua2 L2.length uc2, .slice ua3 L3.length uc3, .slice ua4 L4.length uc4, .slice ua5 0 uc5, .slice ua6 0 uc6, .slice ua7 0 uc7] 46)
  have HXW : Hid (On wa X) := by
    rw [hX]; exact Lib.hid ((On.refl hwa.tab).alloc _)
  have HXO : Hid (On W0 X) := Lib.hid (hO2.trans (hwa.trans HXW.out))
  clear q0 q1 q2 q3 q4 q5 q6 z0 z1 z2 z3 z4 z5 z6 s0 s1 s2 s3 s4 s5 s6 s7 l0 l1 hX
  obtain ⟨s0, s1, s2, s3, s4, s5, s6, s7⟩ := HSY.out _ HXO.out
  obtain ⟨l0, l1⟩ := HTB.out _ HXO.out
  go_upto_region 5 with (first
    | (go_at_call 27; (with_reducible refine (HEB.out _ HXO.out).mono ?_); rintro e wb ⟨⟨V, rfl, hV⟩, hwb⟩; obtain ⟨V1, V2, V3, V4, V5, V6, V7⟩ := V; obtain ⟨g1, g2, g3, g4, g5, g6, g7⟩ := hV; obtain ⟨va1, vc1, e1⟩ := g1.1.shape; obtain ⟨va2, vc2, e2⟩ := g2.1.shape; obtain ⟨va3, vc3, e3⟩ := g3.1.shape; obtain ⟨va4, vc4, e4⟩ := g4.1.shape; obtain ⟨va5, vc5, e5⟩ := g5.1.shape; obtain ⟨va6, vc6, e6⟩ := g6.1.shape; obtain ⟨va7, vc7, e7⟩ := g7.1.shape; simp only at e1 e2 e3 e4; simp only [List.length_nil] at e5 e6 e7; subst e1 e2 e3 e4 e5 e6 e7; simp only at g1 g2 g3 g4 g5 g6 g7; have VG1 := Lib.hid g1; have VG2 := Lib.hid g2; have VG3 := Lib.hid g3; have VG4 := Lib.hid g4; have VG5 := Lib.hid g5; have VG6 := Lib.hid g6; have VG7 := Lib.hid g7; clear g1 g2 g3 g4 g5 g6 g7; obtain ⟨q0, q1, q2, q3, q4, q5, q6, z0, z1, z2, z3, z4, z5, z6⟩ := vb7 (vb_new wb #[.slice none 0 0, .slice none 0 0, .slice none 0 0, .slice none 0 0, .slice none 0 0, .slice none 0 0, .slice none 0 0] 46))
    | fail)
  obtain ⟨Y, hY⟩ : ∃ X, X = (wb.alloc (.cells #[.slice va1 L1.length vc1, .slice va2 L2.length vc2, .slice va3 L3.length vc3, .slice va4 L4.length vc4, .slice va5 0 vc5, .slice va6 0 vc6, .slice va7 0 vc7] 46)) := ⟨_, rfl⟩
  rw [← hY]
  have HYB : Hid (VB wb.heap.size Y [.slice va1 L1.length vc1, .slice va2 L2.length vc2, .slice va3 L3.length vc3, .slice va4 L4.length vc4, .slice va5 0 vc5, .slice va6 0 vc6, .slice va7 0 vc7]) := by
    rw [hY]; exact Lib.hid (vb_new wb #[.slice va1 L1.length vc1, .slice va2 L2.length vc2, .slice va3 L3.length vc3, .slice va4 L4.length vc4, .slice va5 0 vc5, .slice va6 0 vc6, .slice va7 0 vc7] 46)
  have HYW : Hid (On wb Y) := by
    rw [hY]; exact Lib.hid ((On.refl hwb.tab).alloc _)
  have HYO : Hid (On W0 Y) := Lib.hid (HXO.out.trans (hwb.trans HYW.out))
  clear q0 q1 q2 q3 q4 q5 q6 z0 z1 z2 z3 z4 z5 z6 s0 s1 s2 s3 s4 s5 s6 s7 l0 l1 hY
  have HXY : Hid (On X Y) := Lib.hid (hwb.trans HYW.out)
  have HF : Hid (∀ wq, On Y wq → _) := fun wq h => vb7 (HXB.out.on (HXY.out.trans h))
  have HG : Hid (∀ wq, On Y wq → _) := fun wq h => vb7 (HYB.out.on h)
  have HE1 : Hid (∀ wq, On Y wq → Calls Tryd.prog 16 #[.slice ua1 L1.length uc1, .slice va1 L1.length vc1] wq fun e w' => e = .returned (.bool true) ∧ On Y w') := fun wq h => (requal13_any L1 L1 _ _ wq (UG1.out.1.on (HXW.out.trans (HXY.out.trans h))) (VG1.out.1.on (HYW.out.trans h))).mono fun e w' ⟨he, n, ho⟩ => ⟨by rw [he]; simp, by rw [ho]; exact h.drewN n⟩
  have HE2 : Hid (∀ wq, On Y wq → Calls Tryd.prog 16 #[.slice ua2 L2.length uc2, .slice va2 L2.length vc2] wq fun e w' => e = .returned (.bool true) ∧ On Y w') := fun wq h => (requal13_any L2 L2 _ _ wq (UG2.out.1.on (HXW.out.trans (HXY.out.trans h))) (VG2.out.1.on (HYW.out.trans h))).mono fun e w' ⟨he, n, ho⟩ => ⟨by rw [he]; simp, by rw [ho]; exact h.drewN n⟩
  have HE3 : Hid (∀ wq, On Y wq → Calls Tryd.prog 16 #[.slice ua3 L3.length uc3, .slice va3 L3.length vc3] wq fun e w' => e = .returned (.bool true) ∧ On Y w') := fun wq h => (requal13_any L3 L3 _ _ wq (UG3.out.1.on (HXW.out.trans (HXY.out.trans h))) (VG3.out.1.on (HYW.out.trans h))).mono fun e w' ⟨he, n, ho⟩ => ⟨by rw [he]; simp, by rw [ho]; exact h.drewN n⟩
  have HE4 : Hid (∀ wq, On Y wq → Calls Tryd.prog 16 #[.slice ua4 L4.length uc4, .slice va4 L4.length vc4] wq fun e w' => e = .returned (.bool true) ∧ On Y w') := fun wq h => (requal13_any L4 L4 _ _ wq (UG4.out.1.on (HXW.out.trans (HXY.out.trans h))) (VG4.out.1.on (HYW.out.trans h))).mono fun e w' ⟨he, n, ho⟩ => ⟨by rw [he]; simp, by rw [ho]; exact h.drewN n⟩
  have HYY : Hid (On Y Y) := Lib.hid (On.refl HYO.out.tab)
  have hcc := HCC.out
  obtain ⟨m0, m1, m2, m3, m4, m5, m6, _⟩ := HF.out Y HYY.out
  obtain ⟨n0, n1, n2, n3, n4, n5, n6, _⟩ := HG.out Y HYY.out
  generalize hL1 : L1.length = x1 at *
  generalize hL2 : L2.length = x2 at *
  generalize hL3 : L3.length = x3 at *
  generalize hL4 : L4.length = x4 at *
  clear hL1 hL2 hL3 hL4
  go_wp2_with (first
    | (go_at_call 16; (with_reducible refine (HE4.out _ hy3).mono ?_); rintro e y4 ⟨rfl, hy4⟩; obtain ⟨m0, m1, m2, m3, m4, m5, m6, _⟩ := HF.out y4 hy4; obtain ⟨n0, n1, n2, n3, n4, n5, n6, _⟩ := HG.out y4 hy4)
    | (go_at_call 16; (with_reducible refine (HE3.out _ hy2).mono ?_); rintro e y3 ⟨rfl, hy3⟩; obtain ⟨m0, m1, m2, m3, m4, m5, m6, _⟩ := HF.out y3 hy3; obtain ⟨n0, n1, n2, n3, n4, n5, n6, _⟩ := HG.out y3 hy3)
    | (go_at_call 16; (with_reducible refine (HE2.out _ hy1).mono ?_); rintro e y2 ⟨rfl, hy2⟩; obtain ⟨m0, m1, m2, m3, m4, m5, m6, _⟩ := HF.out y2 hy2; obtain ⟨n0, n1, n2, n3, n4, n5, n6, _⟩ := HG.out y2 hy2)
    | (go_at_call 16; (with_reducible refine (HE1.out _ HYY.out).mono ?_); rintro e y1 ⟨rfl, hy1⟩; obtain ⟨m0, m1, m2, m3, m4, m5, m6, _⟩ := HF.out y1 hy1; obtain ⟨n0, n1, n2, n3, n4, n5, n6, _⟩ := HG.out y1 hy1)
    | (go_at_call 11; (with_reducible refine (HLV.out _ (HYO.out.trans hy4)).mono ?_); rintro e y5 ⟨rfl, hy5⟩)
    | fail)
  go_ret
  exact ⟨rfl, HO0.out.trans hy5⟩
end Go.Proofs.YtcbckphlpfbohaaDoor
