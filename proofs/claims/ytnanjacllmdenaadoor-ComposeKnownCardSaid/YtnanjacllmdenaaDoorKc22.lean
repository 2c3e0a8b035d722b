/- Package system: Faults and Holds: what the calls return. -/
import Derived.Test.YtnanjacllmdenaaDoorKc21
import Derived.Test.YtnanjacllmdenaaDoorKc17
import Derived.Test.YtnanjacllmdenaaDoorKc18
import Derived.Test.YtnanjacllmdenaaDoorKc10
import Derived.Maps.OwnSet
set_option linter.unusedSimpArgs false
set_option linter.unusedVariables false
/- Package system: Faults and Holds: what the calls return. -/
namespace Go.Proofs.YtnanjacllmdenaaDoor
open Go.RowKit Go.Lib
set_option linter.unusedVariables false

end Go.Proofs.YtnanjacllmdenaaDoor

/- SystemTurns: plain part: what a turn of all columns leaves as it is. -/
namespace Go.Proofs.YtnanjacllmdenaaDoor
open Go.RowKit Go.Lib
set_option linter.unusedVariables false

/-- A column turned by b rows. -/
def rotC (b : Nat) (c : List Nat) : List Nat := (List.range c.length).map fun i => c.getD ((i + b) % c.length) 0
end Go.Proofs.YtnanjacllmdenaaDoor

/- SystemTurns: the law's turned: what the call returns. -/
namespace Go.Proofs.YtnanjacllmdenaaDoor
open Go.RowKit Go.Lib
set_option linter.unusedVariables false

theorem own_onz {B s n : Nat} {e : TypeId} {w w' : World} {v : Value} {xs : List Value} (h : w.ownsRow B e s v n xs) (k : On w w') : w'.ownsRow B e s v n xs :=
  h.kept (row := none) ⟨k.2.os, k.2.tape, k.2.output, k.2.size, fun b hb _ => k.2.block b hb⟩ (by cases v.ownBlock <;> simp)
/-- The first i columns, turned. -/
def CR (B sh : Nat) (cols : List (List Nat)) (w : World) (v : Value) (i : Nat) : Prop := ∃ us, w.ownsRow B 28 1 v i us ∧ ∀ j, j < i → ∃ u, us[j]? = some u ∧ NR w u (rotC sh (cols.getD j [])) ∧ FrB B u
/-- All that is new since the memory had B blocks stands. -/
def NewK (B : Nat) (w w' : World) : Prop := w.heap.size ≤ w'.heap.size ∧ ∀ b, B ≤ b → b < w.heap.size → w'.heap[b]? = w.heap[b]?
theorem NewK.refl (B : Nat) (w : World) : NewK B w w := ⟨Nat.le_refl _, fun _ _ _ => rfl⟩
theorem CR.on {B sh i : Nat} {cols : List (List Nat)} {w w' : World} {v : Value} (h : CR B sh cols w v i) (k : On w w') : CR B sh cols w' v i := by
  obtain ⟨us, h1, h2⟩ := h
  refine ⟨us, own_onz h1 k, fun j hj => ?_⟩
  obtain ⟨u, e, hn, hf⟩ := h2 j hj
  exact ⟨u, e, hn.on k, hf⟩
theorem CR.step {B sh i : Nat} {cols : List (List Nat)} {w w' : World} {v' u : Value} {us : List Value} (h2 : ∀ j, j < i → ∃ u, us[j]? = some u ∧ NR w u (rotC sh (cols.getD j [])) ∧ FrB B u) (hl : us.length = i) (hu : NR w u (rotC sh (cols.getD i []))) (hfu : FrB B u) (hown : w'.ownsRow B 28 1 v' (i + 1) (us ++ [u])) (hN : ∀ x l, NR w x l → NR w' x l) : CR B sh cols w' v' (i + 1) := by
  refine ⟨_, hown, fun j hj => ?_⟩
  by_cases h : j < i
  · obtain ⟨x, e, hn, hf⟩ := h2 j h
    exact ⟨x, by rw [List.getElem?_append_left (by omega)]; exact e, hN _ _ hn, hf⟩
  · obtain rfl : j = i := by omega
    exact ⟨u, by rw [List.getElem?_append_right (by omega), hl]; simp, hN _ _ hu, hfu⟩
end Go.Proofs.YtnanjacllmdenaaDoor

/- argument.Values and Ons of systems without columns; the counter of law 15: what the calls return. -/
namespace Go.Proofs.YtnanjacllmdenaaDoor
open Go.RowKit Go.Lib
set_option linter.unusedVariables false

/-- The values of the rules in an environment. -/
def rvL (S : Sy) (E : En) : List Nat := S.rules.map fun r => vVal S.f E r.2
theorem vVal_le (f : Int) (E : En) (s : List Mo) : vVal f E s ≤ 998244353 := by
  unfold vVal
  by_cases h1 : validB f = true
  · rw [if_pos h1]
    by_cases h2 : allIn (hasE E) s = true
    · rw [if_pos h2]; exact valS_le f (valE E) s
    · rw [if_neg h2]; omega
  · rw [if_neg h1]; omega
set_option maxHeartbeats 2000000 in
set_option maxRecDepth 100000 in
theorem rvals_yes (S : Sy) (a1 a2 a3 a4 : Option Addr) (k1 k2 k3 k4 : Nat) (V : Ev) (E : En) (w : World) (hT : Tab w) (hR : SyR w ⟨a1, a2, a3, a4, k1, k2, k3, k4⟩ S) (hv : valSy S = true) (hE : EnR w V E) (he : ∀ i, i < S.rules.length → vErr S.f E (S.rules.getD i zRu).2 = 0) :
    Calls Tryd.prog 70 #[syA S ⟨a1, a2, a3, a4, k1, k2, k3, k4⟩, evA V] w fun e w' => (∃ u, e = .returned (.tuple #[u, .int .i64 0]) ∧ NR w' u (rvL S E)) ∧ On w w' := by
  have hs : szS S = true := by unfold valSy at hv; simp only [Bool.and_eq_true] at hv; exact hv.1
  have hru : S.rules.all (ruB S) = true := by unfold valSy at hv; simp only [Bool.and_eq_true] at hv; exact hv.2.2.1
  obtain ⟨hvf, f1, f2, f3, f4, f5, f6, f7, f8, f9, fa, fb⟩ := szS_facts hs
  obtain ⟨W0, hW0⟩ : ∃ W0, W0 = (w.alloc (syO S ⟨a1, a2, a3, a4, k1, k2, k3, k4⟩)).alloc (.cells #[V.v1, V.v2, V.v3, V.v4, V.v5, V.v6, V.v7] 61) := ⟨_, rfl⟩
  have hA1 := (On.refl hT).alloc (syO S ⟨a1, a2, a3, a4, k1, k2, k3, k4⟩)
  have hA2 := (On.refl hA1.tab).alloc (.cells #[V.v1, V.v2, V.v3, V.v4, V.v5, V.v6, V.v7] 61)
  have hO0 : On w W0 := by rw [hW0]; exact hA1.trans hA2
  obtain ⟨Q, hQ⟩ : ∃ Q, Q = w.heap.size := ⟨_, rfl⟩
  have hB0 : VB Q W0 (syL S ⟨a1, a2, a3, a4, k1, k2, k3, k4⟩) := by rw [hW0, hQ]; exact (vb_newS S _ w).on hA2
  have hB1 : VB (Q + 1) W0 (evL V) := by
    have h := vb_new (w.alloc (syO S ⟨a1, a2, a3, a4, k1, k2, k3, k4⟩)) #[V.v1, V.v2, V.v3, V.v4, V.v5, V.v6, V.v7] 61
    rw [World.size_alloc] at h
    rw [hW0, hQ]; exact h
  have HSY : Hid (∀ wq, On W0 wq → _) := Lib.hid fun wq h => sy_cells (hB0.on h)
  have HEB : Hid (∀ wq, On W0 wq → wq.cell? ⟨Q + 1, 0, none⟩ = some V.v1 ∧ wq.cell? ⟨Q + 1, 1, none⟩ = some V.v2 ∧ wq.cell? ⟨Q + 1, 2, none⟩ = some V.v3 ∧ wq.cell? ⟨Q + 1, 3, none⟩ = some V.v4 ∧ wq.cell? ⟨Q + 1, 4, none⟩ = some V.v5 ∧ wq.cell? ⟨Q + 1, 5, none⟩ = some V.v6 ∧ wq.cell? ⟨Q + 1, 6, none⟩ = some V.v7) := Lib.hid fun wq h => ⟨(hB1.on h).2.1 0 _ rfl, (hB1.on h).2.1 1 _ rfl, (hB1.on h).2.1 2 _ rfl, (hB1.on h).2.1 3 _ rfl, (hB1.on h).2.1 4 _ rfl, (hB1.on h).2.1 5 _ rfl, (hB1.on h).2.1 6 _ rfl⟩
  have HRU : Hid (∀ i, i < S.rules.length → ∃ b off ua uc, a2 = some ⟨b, off, none⟩ ∧ (∀ wq, On W0 wq → wq.cell? ⟨b, off + i * 2, none⟩ = some (.int .u8 (S.rules.getD i zRu).1) ∧ wq.cell? ⟨b, off + i * 2 + 1, none⟩ = some (.slice ua (S.rules.getD i zRu).2.length uc)) ∧ ∀ wq, On W0 wq → Calls Tryd.prog 91 #[.int .i64 S.f, .slice ua (S.rules.getD i zRu).2.length uc, evA V] wq fun e w' => e = .returned (.tuple #[.int .u64 ((vVal S.f E (S.rules.getD i zRu).2 : Nat) : Int), .int .i64 0]) ∧ On wq w') := Lib.hid fun i hi => by
    obtain ⟨b, off, e, ⟨d0, _⟩, u, d1, d2⟩ := hR.2.2.1.cells i hi
    obtain ⟨ua, uc, rfl⟩ := d2.shape
    obtain ⟨q1, q2⟩ := ruB_short ((all_getD _ zRu S.rules).1 hru i hi)
    refine ⟨b, off, ua, uc, e, fun wq h => ⟨cell_on (hO0.trans h) d0, cell_on (hO0.trans h) d1⟩, fun wq h => ?_⟩
    have h9 := value_any S.f (S.rules.getD i zRu).2 _ V E wq h.tab ((d2.short8 q1 q2).on (hO0.trans h)) (hE.on (hO0.trans h))
    rw [he i hi] at h9
    exact h9
  have HS : Hid (∀ j, j < S.rules.length → u64s ((rvL S E).take (j + 1)) = u64s ((rvL S E).take j) ++ [.int .u64 ((vVal S.f E (S.rules.getD j zRu).2 : Nat) : Int)]) := Lib.hid fun j hj => by
    have hl : j < (rvL S E).length := by unfold rvL; rw [List.length_map]; exact hj
    rw [take_snoc_m _ 0 j hl]
    have e : (rvL S E).getD j 0 = vVal S.f E (S.rules.getD j zRu).2 := by
      unfold rvL
      rw [List.getD_eq_getElem?_getD, List.getElem?_map, List.getElem?_eq_getElem hj, List.getD_eq_getElem?_getD, List.getElem?_eq_getElem hj]; rfl
    rw [e]; simp [u64s]
  have HUU : Hid (∀ x ∈ rvL S E, x ≤ 18446744073709551615) := Lib.hid fun x hx => by
    obtain ⟨r, _, rfl⟩ := List.mem_map.1 hx
    have := vVal_le S.f E r.2; omega
  have HTK : Hid ((rvL S E).take S.rules.length = rvL S E) := Lib.hid (by
    have hl : (rvL S E).length = S.rules.length := by unfold rvL; rw [List.length_map]
    rw [← hl, List.take_length])
  have HW0 := Lib.hid hW0; have HQ := Lib.hid hQ; have HO0 := Lib.hid hO0
  have H00 := Lib.hid (On.refl hO0.tab)
  have hn64 : S.rules.length ≤ 64 := f9
  clear hT hR hv hE he hs hru hvf f1 f2 f3 f4 f5 f6 f7 f8 f9 fa fb hW0 hQ hO0 hA1 hA2 hB0 hB1
  go_enter Tryd.func70, Tryd.ntmps70
  go_upto_region 1 with fail
  rw [← HW0.out, ← HQ.out]
  obtain ⟨s0, s1, s2, s3, s4, s5, s6, s7⟩ := HSY.out _ H00.out
  go_wp2_with fail
  clear s0 s1 s2 s3 s4 s5 s6 s7
  go_loopw [6, 14] (fun vo vi wr => ∃ i : Nat, i ≤ S.rules.length ∧ vi = .int .i64 (i : Int) ∧ Hid (wr.ownsRow W0.heap.size 42 1 vo i (u64s ((rvL S E).take i))) ∧ Hid (On W0 wr)) (fun _ vi _ => S.rules.length - (RowKit.intOf vi).toNat)
  case atStart => exact ⟨0, Nat.zero_le _, rfl, Lib.hid (World.ownsRow_nil _ _ _ _), H00⟩
  case round =>
    rename World => wr
    obtain ⟨i, hi, rfl, HV, HO⟩ := hrel
    by_cases hlt : i < S.rules.length
    · have hlt' : (i : Int) < ((S.rules.length : Nat) : Int) := by omega
      obtain ⟨rb, ro, ua, uc, rfl, hrc, hmv⟩ := HRU.out i hlt
      have HRC := Lib.hid hrc; have HMV := Lib.hid hmv
      have HTJ := Lib.hid (HS.out i hlt)
      obtain ⟨g0, g1⟩ := hrc wr HO.out
      clear hrc hmv
      generalize (S.rules.getD i zRu).1 = rk at *
      generalize vVal S.f E (S.rules.getD i zRu).2 = vv at *
      generalize (S.rules.getD i zRu).2.length = rn at *
      go_upto_region 5 with fail
      obtain ⟨W1, hW1⟩ : ∃ W, W = wr.alloc (.cells #[.int .u8 rk, .slice ua rn uc] 76) := ⟨_, rfl⟩
      have hX := vb_new wr #[.int .u8 rk, .slice ua rn uc] 76
      have hF := (On.refl HO.out.tab).alloc (.cells #[.int .u8 rk, .slice ua rn uc] 76)
      obtain ⟨X, hXe⟩ : ∃ X, X = wr.heap.size := ⟨_, rfl⟩
      rw [← hXe] at hX
      rw [← hW1] at hX hF
      rw [← hW1, ← hXe]
      clear hW1 hXe g0 g1
      have HO1 := Lib.hid (HO.out.trans hF)
      have HV1 := Lib.hid (own_onz HV.out hF)
      obtain ⟨s0, s1, s2, s3, s4, s5, s6, s7⟩ := HSY.out W1 HO1.out
      obtain ⟨e0, e1, e2, e3, e4, e5, e6⟩ := HEB.out W1 HO1.out
      have x1 := hX.2.1 1 _ rfl
      clear hX hF HV
      obtain ⟨v1, v2, v3, v4, v5, v6, v7⟩ := V
      go_upto_region 6 with (go_at_call 91; (with_reducible refine (HMV.out W1 HO1.out).mono ?_); rintro e w2 ⟨rfl, hO2⟩)
      obtain ⟨v', w', hrun, hown', hOn⟩ := app_u64 (own_onz HV1.out hO2) (HO1.out.trans hO2).size (vv : Int) (by omega)
      rw [← HTJ.out] at hown'
      have HV2 := Lib.hid hown'
      have HO2 := Lib.hid (hOn W0 (HO1.out.trans hO2) (Nat.le_refl _))
      have HRUN := Lib.hid hrun
      clear hown' hOn hrun hO2 x1 e0 e1 e2 e3 e4 e5 e6 s0 s1 s2 s3 s4 s5 s6 s7
      go_wp2_with (at_builtin; refine wp_appendJ rfl (.tmp 30) (.tmp 32) _ _ rfl _ _ v' rfl rfl HRUN.out ?_)
      go_roundw
      case rel => exact ⟨i + 1, by omega, by simp, HV2, HO2⟩
      case measure => simp [RowKit.intOf]; omega
    · obtain rfl : S.rules.length = i := by omega
      have HG : Hid (NR wr u6 (rvL S E)) := by
        have h := HV.out
        rw [HTK.out] at h
        exact Lib.hid (own_nr h HUU.out (by omega))
      go_wp2
      go_ret2
      exact ⟨⟨u6, rfl, HG.out⟩, HO0.out.trans HO.out⟩
set_option maxHeartbeats 1000000 in
set_option maxRecDepth 100000 in
theorem counter15_any (w : World) (hT : Tab w) : Calls Tryd.prog 33 #[.int .i64 1] w fun e w' => (∃ a1 a2 a3 a4 k1 k2 k3 k4, e = .returned (syA (cntS 2) ⟨a1, a2, a3, a4, k1, k2, k3, k4⟩) ∧ SyR w' ⟨a1, a2, a3, a4, k1, k2, k3, k4⟩ (cntS 2)) ∧ On w w' := by
  have h : (0 : Int) ≤ 2 ∧ (2 : Int) ≤ 255 := by omega
  obtain ⟨U1, hU1⟩ : ∃ U, U = w.alloc (.cells #[.int .i64 0, .int .i64 1, .int .i64 1, .int .i64 0, .slice none 0 0, .slice (some ⟨w.heap.size + 1 + 1 + 1 + 1 + 1 + 1, 0, none⟩) 1 1, .slice none 0 0, .slice none 0 0] 27) := ⟨_, rfl⟩
  have hO1 : On w U1 := by rw [hU1]; exact (On.refl hT).alloc _
  have hs1 : U1.heap.size = w.heap.size + 1 := by rw [hU1, World.size_alloc]
  obtain ⟨U2, hU2⟩ : ∃ U, U = U1.alloc (.cells #[.int .u8 1, .int .i64 0] 52) := ⟨_, rfl⟩
  have hO2 : On U1 U2 := by rw [hU2]; exact (On.refl hO1.tab).alloc _
  have hs2 : U2.heap.size = w.heap.size + 1 + 1 := by rw [hU2, World.size_alloc, hs1]
  obtain ⟨U3, hU3⟩ : ∃ U, U = U2.alloc (.cells #[.int .u8 2, .int .i64 0] 52) := ⟨_, rfl⟩
  have hO3 : On U2 U3 := by rw [hU3]; exact (On.refl hO2.tab).alloc _
  have hs3 : U3.heap.size = w.heap.size + 1 + 1 + 1 := by rw [hU3, World.size_alloc, hs2]
  obtain ⟨U4, hU4⟩ : ∃ U, U = U3.alloc (.cells #[.int .u8 2, .int .i64 0] 52) := ⟨_, rfl⟩
  have hO4 : On U3 U4 := by rw [hU4]; exact (On.refl hO3.tab).alloc _
  have hs4 : U4.heap.size = w.heap.size + 1 + 1 + 1 + 1 := by rw [hU4, World.size_alloc, hs3]
  obtain ⟨U5, hU5⟩ : ∃ U, U = U4.alloc (.cells #[.int .u8 1, .int .i64 0] 52) := ⟨_, rfl⟩
  have hO5 : On U4 U5 := by rw [hU5]; exact (On.refl hO4.tab).alloc _
  have hs5 : U5.heap.size = w.heap.size + 1 + 1 + 1 + 1 + 1 := by rw [hU5, World.size_alloc, hs4]
  obtain ⟨U6, hU6⟩ : ∃ U, U = U5.alloc (.cells #[.int .u64 1, .slice (some ⟨w.heap.size + 1 + 1 + 1, 0, none⟩) 1 1, .int .u64 96, .slice (some ⟨w.heap.size + 1 + 1 + 1 + 1, 0, none⟩) 1 1, .int .u64 96, .slice none 0 0] 78) := ⟨_, rfl⟩
  have hO6 : On U5 U6 := by rw [hU6]; exact (On.refl hO5.tab).alloc _
  have hs6 : U6.heap.size = w.heap.size + 1 + 1 + 1 + 1 + 1 + 1 := by rw [hU6, World.size_alloc, hs5]
  obtain ⟨U7, hU7⟩ : ∃ U, U = U6.alloc (.cells #[.int .u8 2, .slice (some ⟨w.heap.size + 1 + 1 + 1 + 1 + 1, 0, none⟩) 3 3] 76) := ⟨_, rfl⟩
  have hO7 : On U6 U7 := by rw [hU7]; exact (On.refl hO6.tab).alloc _
  have hs7 : U7.heap.size = w.heap.size + 1 + 1 + 1 + 1 + 1 + 1 + 1 := by rw [hU7, World.size_alloc, hs6]
  have c0 : VB (w.heap.size) U1 [.int .i64 0, .int .i64 1, .int .i64 1, .int .i64 0, .slice none 0 0, .slice (some ⟨w.heap.size + 1 + 1 + 1 + 1 + 1 + 1, 0, none⟩) 1 1, .slice none 0 0, .slice none 0 0] := by
    have h := vb_new w #[.int .i64 0, .int .i64 1, .int .i64 1, .int .i64 0, .slice none 0 0, .slice (some ⟨w.heap.size + 1 + 1 + 1 + 1 + 1 + 1, 0, none⟩) 1 1, .slice none 0 0, .slice none 0 0] 27
    rw [← hU1] at h
    exact h
  have b0 : VB (w.heap.size) U7 [.int .i64 0, .int .i64 1, .int .i64 1, .int .i64 0, .slice none 0 0, .slice (some ⟨w.heap.size + 1 + 1 + 1 + 1 + 1 + 1, 0, none⟩) 1 1, .slice none 0 0, .slice none 0 0] := c0.on (((((hO2.trans hO3).trans hO4).trans hO5).trans hO6).trans hO7)
  clear c0
  have c1 : VB (w.heap.size + 1) U2 [.int .u8 1, .int .i64 0] := by
    have h := vb_new U1 #[.int .u8 1, .int .i64 0] 52
    rw [← hU2, hs1] at h
    exact h
  have b1 : VB (w.heap.size + 1) U7 [.int .u8 1, .int .i64 0] := c1.on ((((hO3.trans hO4).trans hO5).trans hO6).trans hO7)
  clear c1
  have c2 : VB (w.heap.size + 1 + 1) U3 [.int .u8 2, .int .i64 0] := by
    have h := vb_new U2 #[.int .u8 2, .int .i64 0] 52
    rw [← hU3, hs2] at h
    exact h
  have b2 : VB (w.heap.size + 1 + 1) U7 [.int .u8 2, .int .i64 0] := c2.on (((hO4.trans hO5).trans hO6).trans hO7)
  clear c2
  have c3 : VB (w.heap.size + 1 + 1 + 1) U4 [.int .u8 2, .int .i64 0] := by
    have h := vb_new U3 #[.int .u8 2, .int .i64 0] 52
    rw [← hU4, hs3] at h
    exact h
  have b3 : VB (w.heap.size + 1 + 1 + 1) U7 [.int .u8 2, .int .i64 0] := c3.on ((hO5.trans hO6).trans hO7)
  clear c3
  have c4 : VB (w.heap.size + 1 + 1 + 1 + 1) U5 [.int .u8 1, .int .i64 0] := by
    have h := vb_new U4 #[.int .u8 1, .int .i64 0] 52
    rw [← hU5, hs4] at h
    exact h
  have b4 : VB (w.heap.size + 1 + 1 + 1 + 1) U7 [.int .u8 1, .int .i64 0] := c4.on (hO6.trans hO7)
  clear c4
  have c5 : VB (w.heap.size + 1 + 1 + 1 + 1 + 1) U6 [.int .u64 1, .slice (some ⟨w.heap.size + 1 + 1 + 1, 0, none⟩) 1 1, .int .u64 96, .slice (some ⟨w.heap.size + 1 + 1 + 1 + 1, 0, none⟩) 1 1, .int .u64 96, .slice none 0 0] := by
    have h := vb_new U5 #[.int .u64 1, .slice (some ⟨w.heap.size + 1 + 1 + 1, 0, none⟩) 1 1, .int .u64 96, .slice (some ⟨w.heap.size + 1 + 1 + 1 + 1, 0, none⟩) 1 1, .int .u64 96, .slice none 0 0] 78
    rw [← hU6, hs5] at h
    exact h
  have b5 : VB (w.heap.size + 1 + 1 + 1 + 1 + 1) U7 [.int .u64 1, .slice (some ⟨w.heap.size + 1 + 1 + 1, 0, none⟩) 1 1, .int .u64 96, .slice (some ⟨w.heap.size + 1 + 1 + 1 + 1, 0, none⟩) 1 1, .int .u64 96, .slice none 0 0] := c5.on hO7
  clear c5
  have c6 : VB (w.heap.size + 1 + 1 + 1 + 1 + 1 + 1) U7 [.int .u8 2, .slice (some ⟨w.heap.size + 1 + 1 + 1 + 1 + 1, 0, none⟩) 3 3] := by
    have h := vb_new U6 #[.int .u8 2, .slice (some ⟨w.heap.size + 1 + 1 + 1 + 1 + 1, 0, none⟩) 3 3] 76
    rw [← hU7, hs6] at h
    exact h
  have b6 : VB (w.heap.size + 1 + 1 + 1 + 1 + 1 + 1) U7 [.int .u8 2, .slice (some ⟨w.heap.size + 1 + 1 + 1 + 1 + 1, 0, none⟩) 3 3] := c6.on (On.refl (On.tab hO7))
  clear c6
  have hON : On w U7 := ((((((hO1.trans hO2).trans hO3).trans hO4).trans hO5).trans hO6).trans hO7)
  have hMR : MRw U7 (.slice (some ⟨w.heap.size + 1 + 1 + 1 + 1 + 1, 0, none⟩) 3 3) [(1, [(2, 0)]), (96, [(1, 0)]), (96, [])] := by
    refine ⟨by intro m hm; simp at hm; rcases hm with rfl | rfl | rfl <;> simp, by simp, .inr ⟨_, 0, 3, rfl, fun i hi => ?_⟩⟩
    have hi3 : i < 3 := by simpa using hi
    rcases (show i = 0 ∨ i = 1 ∨ i = 2 by omega) with rfl | rfl | rfl
    · exact ⟨b5.2.1 0 _ rfl, _, b5.2.1 1 _ rfl, vrw_one b3 (by unfold okV; decide)⟩
    · exact ⟨b5.2.1 2 _ rfl, _, b5.2.1 3 _ rfl, vrw_one b4 (by unfold okV; decide)⟩
    · exact ⟨b5.2.1 4 _ rfl, _, b5.2.1 5 _ rfl, vrw_nil U7⟩
  have hRu : RuL U7 (.slice (some ⟨w.heap.size + 1 + 1 + 1 + 1 + 1 + 1, 0, none⟩) 1 1) [(2, [(1, [(2, 0)]), (96, [(1, 0)]), (96, [])])] := by
    refine ⟨by simp, .inr ⟨_, 0, 1, rfl, fun i hi => ?_⟩⟩
    obtain rfl : i = 0 := by simp at hi; omega
    exact ⟨⟨b6.2.1 0 _ rfl, h⟩, _, b6.2.1 1 _ rfl, hMR⟩
  have HSY : Hid (SyR U7 ⟨none, some ⟨w.heap.size + 1 + 1 + 1 + 1 + 1 + 1, 0, none⟩, none, none, 0, 1, 0, 0⟩ (cntS 2)) :=
    Lib.hid ⟨⟨by unfold i64B cntS; simp, by unfold i64B cntS; simp, by unfold i64B cntS; simp, by unfold i64B cntS; simp⟩, SLd.nil _ _ _ _ _ _, hRu, SLd.nil _ _ _ _ _ _, SLd.nil _ _ _ _ _ _⟩
  have HON := Lib.hid hON
  have p0 := b0.2.1 0 _ rfl; have p1 := b0.2.1 1 _ rfl; have p2 := b0.2.1 2 _ rfl; have p3 := b0.2.1 3 _ rfl; have p4 := b0.2.1 4 _ rfl; have p5 := b0.2.1 5 _ rfl; have p6 := b0.2.1 6 _ rfl; have p7 := b0.2.1 7 _ rfl
  have HU1 := Lib.hid hU1; have HU2 := Lib.hid hU2; have HU3 := Lib.hid hU3; have HU4 := Lib.hid hU4; have HU5 := Lib.hid hU5; have HU6 := Lib.hid hU6; have HU7 := Lib.hid hU7
  have HP := Lib.hid (And.intro p0 (And.intro p1 (And.intro p2 (And.intro p3 (And.intro p4 (And.intro p5 (And.intro p6 p7)))))))
  clear hMR hRu hON b0 b1 b2 b3 b4 b5 b6 hs1 hs2 hs3 hs4 hs5 hs6 hs7 hO1 hO2 hO3 hO4 hO5 hO6 hO7 hU1 hU2 hU3 hU4 hU5 hU6 hU7 p0 p1 p2 p3 p4 p5 p6 p7 hT h
  go_enter Tryd.func33, Tryd.ntmps33
  go_wp2_with fail
  rw [← HU1.out, ← HU2.out, ← HU3.out, ← HU4.out, ← HU5.out, ← HU6.out, ← HU7.out]
  obtain ⟨p0, p1, p2, p3, p4, p5, p6, p7⟩ := HP.out
  refine bodyPost_ret (v := syA (cntS 2) ⟨none, some ⟨w.heap.size + 1 + 1 + 1 + 1 + 1 + 1, 0, none⟩, none, none, 0, 1, 0, 0⟩) (by simp [results, Tryd.results33, go_sem, p0, p1, p2, p3, p4, p5, p6, p7, cntS]; try rfl) rfl ?_
  exact ⟨⟨_, _, _, _, _, _, _, _, rfl, HSY.out⟩, HON.out⟩
end Go.Proofs.YtnanjacllmdenaaDoor

/- argument.Values and Ons of systems without columns: what the calls return. -/
namespace Go.Proofs.YtnanjacllmdenaaDoor
open Go.RowKit Go.Lib
set_option linter.unusedVariables false

set_option maxRecDepth 100000 in
theorem colsof_zero (S : Sy) (a1 a2 a3 a4 : Option Addr) (k1 k2 k3 k4 : Nat) (w : World) (hT : Tab w) (hp : S.perms.length = 0) (hl : S.looks.length = 0) :
    Calls Tryd.prog 71 #[syA S ⟨a1, a2, a3, a4, k1, k2, k3, k4⟩] w fun e w' => e = .returned (.int .i64 0) ∧ On w w' := by
  obtain ⟨W0, hW0⟩ : ∃ W0, W0 = w.alloc (syO S ⟨a1, a2, a3, a4, k1, k2, k3, k4⟩) := ⟨_, rfl⟩
  have hO0 : On w W0 := by rw [hW0]; exact (On.refl hT).alloc _
  obtain ⟨Q, hQ⟩ : ∃ Q, Q = w.heap.size := ⟨_, rfl⟩
  have hB0 : VB Q W0 (syL S ⟨a1, a2, a3, a4, k1, k2, k3, k4⟩) := by rw [hW0, hQ]; exact vb_newS S _ w
  have HSY : Hid (∀ wq, On W0 wq → _) := Lib.hid fun wq h => sy_cells (hB0.on h)
  have HP : Hid (∀ wq, On W0 wq → wq.cell? ⟨Q, 6, none⟩ = some (.slice a3 0 k3) ∧ wq.cell? ⟨Q, 7, none⟩ = some (.slice a4 0 k4)) := Lib.hid fun wq h => by
    obtain ⟨s0, s1, s2, s3, s4, s5, s6, s7⟩ := HSY.out wq h
    rw [hp] at s6; rw [hl] at s7
    exact ⟨s6, s7⟩
  have HW0 := Lib.hid hW0; have HQ := Lib.hid hQ; have HO0 := Lib.hid hO0; have H00 := Lib.hid (On.refl hO0.tab)
  clear hT hp hl hW0 hQ hO0 hB0
  go_enter Tryd.func71, Tryd.ntmps71
  go_upto_region 1 with fail
  rw [← HW0.out, ← HQ.out]
  obtain ⟨s6, s7⟩ := HP.out _ H00.out
  go_wp2
  go_ret
  exact ⟨rfl, HO0.out⟩
set_option maxHeartbeats 2000000 in
set_option maxRecDepth 100000 in
theorem values0_yes (S : Sy) (a1 a2 a3 a4 : Option Addr) (k1 k2 k3 k4 : Nat) (V : Ev) (E : En) (w : World) (hT : Tab w) (hR : SyR w ⟨a1, a2, a3, a4, k1, k2, k3, k4⟩ S) (hv : valSy S = true) (hE : EnR w V E) (he : ∀ i, i < S.rules.length → vErr S.f E (S.rules.getD i zRu).2 = 0) (hp : S.perms.length = 0) (hl : S.looks.length = 0) :
    Calls Tryd.prog 26 #[syA S ⟨a1, a2, a3, a4, k1, k2, k3, k4⟩, evA V] w fun e w' => (∃ u, e = .returned (.tuple #[u, .int .i64 0]) ∧ NR w' u (rvL S E)) ∧ On w w' := by
  obtain ⟨W0, hW0⟩ : ∃ W0, W0 = (w.alloc (syO S ⟨a1, a2, a3, a4, k1, k2, k3, k4⟩)).alloc (.cells #[V.v1, V.v2, V.v3, V.v4, V.v5, V.v6, V.v7] 61) := ⟨_, rfl⟩
  have hA1 := (On.refl hT).alloc (syO S ⟨a1, a2, a3, a4, k1, k2, k3, k4⟩)
  have hA2 := (On.refl hA1.tab).alloc (.cells #[V.v1, V.v2, V.v3, V.v4, V.v5, V.v6, V.v7] 61)
  have hO0 : On w W0 := by rw [hW0]; exact hA1.trans hA2
  obtain ⟨Q, hQ⟩ : ∃ Q, Q = w.heap.size := ⟨_, rfl⟩
  have hB0 : VB Q W0 (syL S ⟨a1, a2, a3, a4, k1, k2, k3, k4⟩) := by rw [hW0, hQ]; exact (vb_newS S _ w).on hA2
  have hB1 : VB (Q + 1) W0 (evL V) := by
    have h := vb_new (w.alloc (syO S ⟨a1, a2, a3, a4, k1, k2, k3, k4⟩)) #[V.v1, V.v2, V.v3, V.v4, V.v5, V.v6, V.v7] 61
    rw [World.size_alloc] at h
    rw [hW0, hQ]; exact h
  have HSY : Hid (∀ wq, On W0 wq → _) := Lib.hid fun wq h => sy_cells (hB0.on h)
  have HEB : Hid (∀ wq, On W0 wq → wq.cell? ⟨Q + 1, 0, none⟩ = some V.v1 ∧ wq.cell? ⟨Q + 1, 1, none⟩ = some V.v2 ∧ wq.cell? ⟨Q + 1, 2, none⟩ = some V.v3 ∧ wq.cell? ⟨Q + 1, 3, none⟩ = some V.v4 ∧ wq.cell? ⟨Q + 1, 4, none⟩ = some V.v5 ∧ wq.cell? ⟨Q + 1, 5, none⟩ = some V.v6 ∧ wq.cell? ⟨Q + 1, 6, none⟩ = some V.v7) := Lib.hid fun wq h => ⟨(hB1.on h).2.1 0 _ rfl, (hB1.on h).2.1 1 _ rfl, (hB1.on h).2.1 2 _ rfl, (hB1.on h).2.1 3 _ rfl, (hB1.on h).2.1 4 _ rfl, (hB1.on h).2.1 5 _ rfl, (hB1.on h).2.1 6 _ rfl⟩
  have HVD : Hid (∀ wq, On W0 wq → Calls Tryd.prog 52 #[syA S ⟨a1, a2, a3, a4, k1, k2, k3, k4⟩] wq fun e w' => e = .returned (.bool true) ∧ On W0 w') := Lib.hid fun wq h => by
    have h9 := valid13_any S ⟨a1, a2, a3, a4, k1, k2, k3, k4⟩ wq h.tab (hR.on (hO0.trans h))
    rw [hv] at h9
    exact h9.mono fun e w' ⟨a, b⟩ => ⟨a, h.trans b⟩
  have HRV : Hid (∀ wq, On W0 wq → Calls Tryd.prog 70 #[syA S ⟨a1, a2, a3, a4, k1, k2, k3, k4⟩, evA V] wq fun e w' => (∃ u, e = .returned (.tuple #[u, .int .i64 0]) ∧ NR w' u (rvL S E)) ∧ On W0 w') := Lib.hid fun wq h => (rvals_yes S a1 a2 a3 a4 k1 k2 k3 k4 V E wq h.tab (hR.on (hO0.trans h)) hv (hE.on (hO0.trans h)) he).mono fun e w' ⟨a, b⟩ => ⟨a, h.trans b⟩
  have HCO : Hid (∀ wq, On W0 wq → Calls Tryd.prog 71 #[syA S ⟨a1, a2, a3, a4, k1, k2, k3, k4⟩] wq fun e w' => e = .returned (.int .i64 0) ∧ On wq w') := Lib.hid fun wq h => colsof_zero S a1 a2 a3 a4 k1 k2 k3 k4 wq h.tab hp hl
  have HW0 := Lib.hid hW0; have HQ := Lib.hid hQ; have HO0 := Lib.hid hO0
  have H00 := Lib.hid (On.refl hO0.tab)
  clear hT hR hv hE he hp hl hW0 hQ hO0 hA1 hA2 hB0 hB1
  obtain ⟨v1, v2, v3, v4, v5, v6, v7⟩ := V
  go_enter Tryd.func26, Tryd.ntmps26
  go_upto_region 1 with fail
  rw [← HW0.out, ← HQ.out]
  obtain ⟨s0, s1, s2, s3, s4, s5, s6, s7⟩ := HSY.out _ H00.out
  obtain ⟨e0, e1, e2, e3, e4, e5, e6⟩ := HEB.out _ H00.out
  go_wp2_with (first
    | (go_at_call 52; (with_reducible refine (HVD.out _ H00.out).mono ?_); rintro e w1 ⟨rfl, hO1⟩; obtain ⟨s0, s1, s2, s3, s4, s5, s6, s7⟩ := HSY.out _ hO1; obtain ⟨e0, e1, e2, e3, e4, e5, e6⟩ := HEB.out _ hO1)
    | (go_at_call 70; (with_reducible refine (HRV.out _ hO1).mono ?_); rintro e w2 ⟨⟨u, rfl, hN⟩, hO2⟩; obtain ⟨s0, s1, s2, s3, s4, s5, s6, s7⟩ := HSY.out _ hO2; obtain ⟨e0, e1, e2, e3, e4, e5, e6⟩ := HEB.out _ hO2)
    | (go_at_call 71; (with_reducible refine (HCO.out _ hO2).mono ?_); rintro e w3 ⟨rfl, hO3⟩)
    | fail)
  go_ret2
  exact ⟨⟨u, rfl, hN.on hO3⟩, HO0.out.trans (hO2.trans hO3)⟩
/-- Where the constraints are asked, as it is listed. -/
abbrev OnL := SLd (0 : Int) 1 (fun (w : World) (b o : Nat) (x : Int) => w.cell? ⟨b, o, none⟩ = some (.int .u8 x))
theorem OnL.on {W w : World} {v : Value} {l : List Int} (h : OnL W v l) (k : On W w) : OnL w v l := h.mono fun b o x r => cell_on k r
def u8s (l : List Int) : List Value := l.map fun x => .int .u8 x
theorem info_onz : (Tryd.prog.info? 67).map (fun i => (i.zero, i.size, i.bytes)) = some (some (.int .u8 0), 1, 1) := by kernel_rfl
theorem app_on {B : Nat} {w : World} {v : Value} {n : Nat} {xs : List Value} (hown : w.ownsRow B 67 1 v n xs) (hB : B ≤ w.heap.size) (x : Int) (hl : n ≤ 1000000) :
    ∃ v' w', (∀ ty, (Builtin.append_ #[65, 65] ty #[v, .slice (some ⟨w.heap.size, 0, none⟩) 1 1]).run Tryd.prog (w.alloc (.cells #[.int .u8 x] 67)) = .ok v' w') ∧ w'.ownsRow B 67 1 v' (n + 1) (xs ++ [.int .u8 x]) ∧
      ∀ W, On W w → W.heap.size ≤ B → On W w' := by
  obtain ⟨i0, hi, hz0, hz1, hz2⟩ := info_parts info_onz
  have hb2 := vb_new w #[.int .u8 x] 67
  obtain ⟨v', w', hrun, hown', hg, hloc⟩ := append_cells (P := Tryd.prog) (w.alloc (.cells #[.int .u8 x] 67)) B 65 67 i0 (.int .u8 0) 1 1 Tryd.underlying65 hi hz0 hz1 hz2 rfl (by omega) v n xs (hown.alloc _) (some ⟨w.heap.size, 0, none⟩) 1 1 [.int .u8 x] rfl
    (fun _ => ⟨_, rfl, fun j u hj => by
      obtain rfl : j = 0 := by
        have := (List.getElem?_eq_some_iff.1 hj).1; simp at this; omega
      simp only [List.getElem?_cons_zero, Option.some.injEq] at hj
      subst hj
      exact hb2.2.1 0 _ rfl⟩) (by intro u hu; simp at hu; subst hu; rfl) (by unfold maxLen; omega) (by omega) (by simp; omega)
  exact ⟨v', w', hrun, hown', fun W hW hWB => (hW.alloc _).gbv hg (fun r hr => Nat.le_trans hWB (ownsRow_below hown r hr))⟩
theorem own_onl {B n : Nat} {w : World} {v : Value} {l : List Int} (h : w.ownsRow B 67 1 v n (u8s l)) (hl : l.length = n) (hn : n ≤ 1000000) : OnL w v l := by
  refine own_sld (0 : Int) _ h hl (by omega) fun g i u hi hu hc => ?_
  have e : (u8s l)[i]? = some (.int .u8 (l.getD i 0)) := by
    unfold u8s
    rw [List.getElem?_map, List.getElem?_eq_getElem (by omega : i < l.length), List.getD_eq_getElem?_getD, List.getElem?_eq_getElem (by omega : i < l.length)]; rfl
  rw [hu] at e
  obtain rfl := Option.some.inj e
  exact hc
def onsL (S : Sy) : List Int := S.rules.map fun r => r.1
set_option maxHeartbeats 2000000 in
set_option maxRecDepth 100000 in
theorem ons0_yes (S : Sy) (a1 a2 a3 a4 : Option Addr) (k1 k2 k3 k4 : Nat) (w : World) (hT : Tab w) (hR : SyR w ⟨a1, a2, a3, a4, k1, k2, k3, k4⟩ S) (hv : valSy S = true) (hp : S.perms.length = 0) (hl : S.looks.length = 0) :
    Calls Tryd.prog 29 #[syA S ⟨a1, a2, a3, a4, k1, k2, k3, k4⟩] w fun e w' => (∃ u, e = .returned u ∧ OnL w' u (onsL S) ∧ FrB w.heap.size u) ∧ On w w' := by
  have hs : szS S = true := by unfold valSy at hv; simp only [Bool.and_eq_true] at hv; exact hv.1
  obtain ⟨hvf, f1, f2, f3, f4, f5, f6, f7, f8, f9, fa, fb⟩ := szS_facts hs
  obtain ⟨W0, hW0⟩ : ∃ W0, W0 = w.alloc (syO S ⟨a1, a2, a3, a4, k1, k2, k3, k4⟩) := ⟨_, rfl⟩
  have hO0 : On w W0 := by rw [hW0]; exact (On.refl hT).alloc _
  obtain ⟨Q, hQ⟩ : ∃ Q, Q = w.heap.size := ⟨_, rfl⟩
  have hB0 : VB Q W0 (syL S ⟨a1, a2, a3, a4, k1, k2, k3, k4⟩) := by rw [hW0, hQ]; exact vb_newS S _ w
  have HSY : Hid (∀ wq, On W0 wq → _) := Lib.hid fun wq h => sy_cells (hB0.on h)
  have HVD : Hid (∀ wq, On W0 wq → Calls Tryd.prog 52 #[syA S ⟨a1, a2, a3, a4, k1, k2, k3, k4⟩] wq fun e w' => e = .returned (.bool true) ∧ On W0 w') := Lib.hid fun wq h => by
    have h9 := valid13_any S ⟨a1, a2, a3, a4, k1, k2, k3, k4⟩ wq h.tab (hR.on (hO0.trans h))
    rw [hv] at h9
    exact h9.mono fun e w' ⟨a, b⟩ => ⟨a, h.trans b⟩
  have HCO : Hid (∀ wq, On W0 wq → Calls Tryd.prog 71 #[syA S ⟨a1, a2, a3, a4, k1, k2, k3, k4⟩] wq fun e w' => e = .returned (.int .i64 0) ∧ On wq w') := Lib.hid fun wq h => colsof_zero S a1 a2 a3 a4 k1 k2 k3 k4 wq h.tab hp hl
  have HRU : Hid (∀ i, i < S.rules.length → ∃ b off ua uc un, a2 = some ⟨b, off, none⟩ ∧ (∀ wq, On W0 wq → wq.cell? ⟨b, off + i * 2, none⟩ = some (.int .u8 (S.rules.getD i zRu).1) ∧ wq.cell? ⟨b, off + i * 2 + 1, none⟩ = some (.slice ua un uc))) := Lib.hid fun i hi => by
    obtain ⟨b, off, e, ⟨d0, _⟩, u, d1, d2⟩ := hR.2.2.1.cells i hi
    obtain ⟨ua, uc, rfl⟩ := d2.shape
    exact ⟨b, off, ua, uc, _, e, fun wq h => ⟨cell_on (hO0.trans h) d0, cell_on (hO0.trans h) d1⟩⟩
  have HS : Hid (∀ j, j < S.rules.length → u8s ((onsL S).take (j + 1)) = u8s ((onsL S).take j) ++ [.int .u8 (S.rules.getD j zRu).1]) := Lib.hid fun j hj => by
    have hl9 : j < (onsL S).length := by unfold onsL; rw [List.length_map]; exact hj
    rw [take_snoc_m _ 0 j hl9]
    have e : (onsL S).getD j 0 = (S.rules.getD j zRu).1 := by
      unfold onsL
      rw [List.getD_eq_getElem?_getD, List.getElem?_map, List.getElem?_eq_getElem hj, List.getD_eq_getElem?_getD, List.getElem?_eq_getElem hj]; rfl
    rw [e]; simp [u8s]
  have HLO : Hid ((onsL S).length = S.rules.length) := Lib.hid (by unfold onsL; rw [List.length_map])
  have HTK : Hid ((onsL S).take S.rules.length = onsL S) := Lib.hid (by rw [← HLO.out, List.take_length])
  have HW0 := Lib.hid hW0; have HQ := Lib.hid hQ; have HO0 := Lib.hid hO0
  have H00 := Lib.hid (On.refl hO0.tab)
  have hn64 : S.rules.length ≤ 64 := f9
  clear hT hR hv hp hl hs hvf f1 f2 f3 f4 f5 f6 f7 f8 f9 fa fb hW0 hQ hO0 hB0
  go_enter Tryd.func29, Tryd.ntmps29
  go_upto_region 1 with fail
  rw [← HW0.out, ← HQ.out]
  obtain ⟨s0, s1, s2, s3, s4, s5, s6, s7⟩ := HSY.out _ H00.out
  go_wp2_with (go_at_call 52; (with_reducible refine (HVD.out _ H00.out).mono ?_); rintro e w1 ⟨rfl, hO1⟩; obtain ⟨s0, s1, s2, s3, s4, s5, s6, s7⟩ := HSY.out _ hO1)
  have HO1 := Lib.hid hO1
  clear hO1
  clear s0 s1 s2 s3 s4 s5 s6 s7
  go_loopw [3, 12] (fun vo vi wr => ∃ i : Nat, i ≤ S.rules.length ∧ vi = .int .i64 (i : Int) ∧ Hid (wr.ownsRow W0.heap.size 67 1 vo i (u8s ((onsL S).take i))) ∧ Hid (On W0 wr)) (fun _ vi _ => S.rules.length - (RowKit.intOf vi).toNat)
  case atStart => exact ⟨0, Nat.zero_le _, rfl, Lib.hid (World.ownsRow_nil _ _ _ _), HO1⟩
  case round =>
    rename World => wr
    obtain ⟨i, hi, rfl, HV, HO⟩ := hrel
    by_cases hlt : i < S.rules.length
    · have hlt' : (i : Int) < ((S.rules.length : Nat) : Int) := by omega
      obtain ⟨rb, ro, ua, uc, un, rfl, hrc⟩ := HRU.out i hlt
      have HTJ := Lib.hid (HS.out i hlt)
      obtain ⟨g0, g1⟩ := hrc wr HO.out
      clear hrc
      generalize (S.rules.getD i zRu).1 = rk at *
      go_upto_region 7 with fail
      obtain ⟨W1, hW1⟩ : ∃ W, W = wr.alloc (.cells #[.int .u8 rk, .slice ua un uc] 76) := ⟨_, rfl⟩
      have hX := vb_new wr #[.int .u8 rk, .slice ua un uc] 76
      have hF := (On.refl HO.out.tab).alloc (.cells #[.int .u8 rk, .slice ua un uc] 76)
      obtain ⟨X, hXe⟩ : ∃ X, X = wr.heap.size := ⟨_, rfl⟩
      rw [← hXe] at hX
      rw [← hW1] at hX hF
      rw [← hW1, ← hXe]
      clear hW1 hXe g0 g1
      have HO2 := HO.out.trans hF
      have x0 := hX.2.1 0 _ rfl
      obtain ⟨v', w', hrun, hown', hOn⟩ := app_on (own_onz HV.out hF) HO2.size rk (by omega)
      rw [← HTJ.out] at hown'
      have HV2 := Lib.hid hown'
      have HO3 := Lib.hid (hOn W0 HO2 (Nat.le_refl _))
      have HRUN := Lib.hid hrun
      clear hown' hOn hrun hX hF HV HO2
      go_wp2_with (at_builtin; refine wp_appendJ rfl (.tmp 16) (.tmp 19) _ _ rfl _ _ v' rfl rfl HRUN.out ?_)
      go_roundw
      case rel => exact ⟨i + 1, by omega, by simp, HV2, HO3⟩
      case measure => simp [RowKit.intOf]; omega
    · obtain rfl : S.rules.length = i := by omega
      obtain ⟨s0, s1, s2, s3, s4, s5, s6, s7⟩ := HSY.out _ HO.out
      have HG : Hid (OnL wr u3 (onsL S) ∧ FrB W0.heap.size u3) := by
        have h := HV.out
        rw [HTK.out] at h
        exact Lib.hid ⟨own_onl h HLO.out (by omega), own_frb h⟩
      go_wp2_with (go_at_call 71; (with_reducible refine (HCO.out _ HO.out).mono ?_); rintro e w3 ⟨rfl, hO3⟩)
      clear s0 s1 s2 s3 s4 s5 s6 s7
      refine wp_loop_rounds 1 ?_
      rw [rounds_succ]
      go_wp2_with fail
      go_ret
      exact ⟨⟨u3, rfl, HG.out.1.on hO3, fun b o n c e => Nat.le_trans HO0.out.size (HG.out.2 b o n c e)⟩, HO0.out.trans (HO.out.trans hO3)⟩
end Go.Proofs.YtnanjacllmdenaaDoor

/- compose.composerOf of a system with one rule, at one point: what the call returns. -/
namespace Go.Proofs.YtnanjacllmdenaaDoor
open Go.RowKit Go.Lib
set_option linter.unusedVariables false

section
variable {P : Program} {md : Region.Mode} {ops : Array Oper} {Q : Exit → Act → World → Prop} {S : World → Prop}
theorem HeadG.fork3z {n g f i j k : Nat} {oi oj ok : Oper} {done : Array Bool} {a : Act} {w : World} (hoi : ops[i]? = some oi) (hoj : ops[j]? = some oj) (hok : ops[k]? = some ok) (hr : Region.ready md ops done = [i, j, k])
    (hin : decide (i < n) = true) (hjn : decide (j < n) = true) (hkn : decide (k < n) = true)
    (hi : ∀ K' : Act → World → Prop, Shut (∀ a w, S w → HeadG P md ops Q S n g f (done.setIfInBounds i true) a w → K' a w) → if Region.wanted oi (yielded ops a.tmps) = true then Oper.wp P oi a w K' Q else K' (a.put oi.dst undef) w)
    (hj : ∀ K' : Act → World → Prop, Shut (∀ a w, S w → HeadG P md ops Q S n g f (done.setIfInBounds j true) a w → K' a w) → if Region.wanted oj (yielded ops a.tmps) = true then Oper.wp P oj a w K' Q else K' (a.put oj.dst undef) w)
    (hk : ∀ K' : Act → World → Prop, Shut (∀ a w, S w → HeadG P md ops Q S n g f (done.setIfInBounds k true) a w → K' a w) → if Region.wanted ok (yielded ops a.tmps) = true then Oper.wp P ok a w K' Q else K' (a.put ok.dst undef) w) :
    HeadG P md ops Q S n g (f + 1) done a w := fun inv => by
  have hin' : i < n := by simpa using hin
  have hjn' : j < n := by simpa using hjn
  have hkn' : k < n := by simpa using hkn
  have hmi : i ∈ Region.ready md ops done := by rw [hr]; simp
  have hmj : j ∈ Region.ready md ops done := by rw [hr]; simp
  have hmk : k ∈ Region.ready md ops done := by rw [hr]; simp
  refine ⟨by rw [hr]; simp, fun x hx => ?_⟩
  rw [hr] at hx
  rcases List.mem_cons.1 hx with rfl | hx
  · exact ⟨hin', wpOp_step hoi (fun K' hK => hi K' (fun a w hS hW => hK a w ⟨hS, hW (inv.set hmi hin')⟩))⟩
  rcases List.mem_cons.1 hx with rfl | hx
  · exact ⟨hjn', wpOp_step hoj (fun K' hK => hj K' (fun a w hS hW => hK a w ⟨hS, hW (inv.set hmj hjn')⟩))⟩
  · rw [List.mem_singleton] at hx
    subst hx
    exact ⟨hkn', wpOp_step hok (fun K' hK => hk K' (fun a w hS hW => hK a w ⟨hS, hW (inv.set hmk hkn')⟩))⟩
end
theorem lawOn : Maps.Keyed Tryd.prog 67 := Maps.int_keyed Tryd.underlying67
theorem zeroSl (w : World) : (zeroValue 28).run Tryd.prog w = .ok (.slice none 0 0) w := by kernel_rfl
/-- How the lists of one number that lie in a map are read: by their blocks. -/
def RE (v : Value) : Option (DataW Unit × List MemPlace) :=
  match v with
  | .slice none 0 0 => some (.lit (.int .i64 (-1)), [])
  | .slice (some ⟨b, 0, none⟩) 1 1 => some (.lit (.int .i64 ((b : Nat) : Int)), [])
  | _ => none
theorem RE_one {v : Value} {g : Nat} {ps : List MemPlace} (h : RE v = some (.lit (.int .i64 ((g : Nat) : Int)), ps)) : v = .slice (some ⟨g, 0, none⟩) 1 1 := by
  unfold RE at h
  split at h
  · simp at h
  · simp only [Option.some.injEq, Prod.mk.injEq, DataW.lit.injEq, Lit.int.injEq, true_and] at h
    have : (_ : Nat) = g := Int.ofNat.inj h.1
    subst this; rfl
  · cases h
theorem RE_nil {v : Value} {ps : List MemPlace} (h : RE v = some (.lit (.int .i64 (-1)), ps)) : v = .slice none 0 0 := by
  unfold RE at h
  split at h
  · rfl
  · simp at h
  · cases h
theorem keyOn (x : Int) (h : 0 ≤ x ∧ x ≤ 255) : keyOf Tryd.prog 67 (.int .u8 x) = some (.int .u8 x) := Maps.keyOf_int_mk Tryd.underlying67 (by
  obtain ⟨h1, h2⟩ := h
  simp [Lit.wf, IntKind.min, IntKind.max, IntKind.bits, IntKind.signed]; omega)
/-- An empty map; a map with one entry. -/
def M0 (w : World) (b : Nat) : Prop := w.ownsMap Tryd.prog 67 RE b 0 (.map [])
def M1 (w : World) (b : Nat) (x : Int) (g : Nat) : Prop := w.ownsMap Tryd.prog 67 RE b 1 ((DataW.map []).put (.int .u8 x) (.lit (.int .i64 ((g : Nat) : Int))))
theorem M0.on {w w' : World} {b : Nat} (h : M0 w b) (k : On w w') : M0 w' b := h.kept k.gbnz (by simp)
theorem M1.on {w w' : World} {b : Nat} {x : Int} {g : Nat} (h : M1 w b x g) (k : On w w') : M1 w' b x g := h.kept k.gbnz (by simp)
theorem M0.look {w : World} {b : Nat} (h : M0 w b) (x : Int) (hx : 0 ≤ x ∧ x ≤ 255) : (Instr.lookup 124 (.map (some b)) (.int .u8 x) true).run Tryd.prog w = .ok (.tuple #[.slice none 0 0, .bool false]) w := by
  obtain ⟨v, ps, hrun, hv⟩ := World.ownsMap.look_ok h lawOn Tryd.underlying124 (zeroSl w) (zd := .lit (.int .i64 (-1))) (zp := []) rfl (keyOn x hx)
  have e : (DataW.map ([] : List (Lit × DataW Unit))).atKey (.int .u8 x) (.lit (.int .i64 (-1))) = .lit (.int .i64 (-1)) := by simp [DataW.atKey]
  rw [e] at hv
  rw [RE_nil hv] at hrun
  rw [hrun]
  congr 1
theorem M0.put {w : World} {b : Nat} (h : M0 w b) (x : Int) (hx : 0 ≤ x ∧ x ≤ 255) (g : Nat) : ∃ w', (Instr.mapUpdate 124 (.map (some b)) (.int .u8 x) (.slice (some ⟨g, 0, none⟩) 1 1)).run Tryd.prog w = .ok () w' ∧ M1 w' b x g ∧ w.grownBy w' (some b) :=
  World.ownsMap.update h lawOn Tryd.underlying124 (by decide) (keyOn x hx) (val := .slice (some ⟨g, 0, none⟩) 1 1) (d := .lit (.int .i64 ((g : Nat) : Int))) (ps := []) rfl
theorem M1.look {w : World} {b : Nat} {x : Int} {g : Nat} (h : M1 w b x g) (hx : 0 ≤ x ∧ x ≤ 255) : (Instr.lookup 124 (.map (some b)) (.int .u8 x) false).run Tryd.prog w = .ok (.slice (some ⟨g, 0, none⟩) 1 1) w := by
  obtain ⟨v, ps, hrun, hv⟩ := World.ownsMap.lookup h lawOn Tryd.underlying124 (zeroSl w) (zd := .lit (.int .i64 (-1))) (zp := []) rfl (keyOn x hx)
  rw [Maps.atKey_put_same ⟨[], rfl⟩ (lawOn.key (keyOn x hx))] at hv
  rw [RE_one hv] at hrun
  exact hrun
theorem ne_map {w : World} {mb cb : Nat} {v : Value} {l : List Value} (h : M0 w mb) (k : VB cb w (v :: l)) : mb ≠ cb := fun e => by
  subst e
  obtain ⟨es, clock, hb, _⟩ := h
  have c := k.2.1 0 _ rfl
  unfold World.cell? at c
  rw [hb] at c
  simp at c
theorem M0.set {w : World} {mb cb o : Nat} {v : Value} (h : M0 w mb) (hne : mb ≠ cb) : M0 (w.setCell ⟨cb, o, none⟩ v) mb := h.kept (gb_set w ⟨cb, o, none⟩ v) (by simpa using fun e => hne e)
theorem M1.set {w : World} {mb cb o : Nat} {x : Int} {g : Nat} {v : Value} (h : M1 w mb x g) (hne : mb ≠ cb) : M1 (w.setCell ⟨cb, o, none⟩ v) mb x g := h.kept (gb_set w ⟨cb, o, none⟩ v) (by simpa using fun e => hne e)
/-- What the composer's result is, behind the stores. -/
theorem cmp_done {w W0 V : World} {B ob oo mb g : Nat} {x y : Value} {k : Int} (hB : w.heap.size ≤ B) (hw : B < W0.heap.size) (hO : On w V) (hc : V.cell? ⟨ob, oo, none⟩ = some x) (ho : W0.heap.size ≤ ob) (hg : V.cell? ⟨g, 0, none⟩ = some y) (hgw : W0.heap.size ≤ g) (hmw : W0.heap.size ≤ mb) (hm : M1 V mb k g) {z0 z1 z2 z3 : Value} (hV : VB B V [z0, z1, z2, z3]) (v0 v1 v2 v3 : Value) :
    On w ((((V.setCell ⟨B, 0, none⟩ v0).setCell ⟨B, 1, none⟩ v1).setCell ⟨B, 2, none⟩ v2).setCell ⟨B, 3, none⟩ v3) ∧ ((((V.setCell ⟨B, 0, none⟩ v0).setCell ⟨B, 1, none⟩ v1).setCell ⟨B, 2, none⟩ v2).setCell ⟨B, 3, none⟩ v3).cell? ⟨ob, oo, none⟩ = some x ∧ ((((V.setCell ⟨B, 0, none⟩ v0).setCell ⟨B, 1, none⟩ v1).setCell ⟨B, 2, none⟩ v2).setCell ⟨B, 3, none⟩ v3).cell? ⟨g, 0, none⟩ = some y ∧ M1 ((((V.setCell ⟨B, 0, none⟩ v0).setCell ⟨B, 1, none⟩ v1).setCell ⟨B, 2, none⟩ v2).setCell ⟨B, 3, none⟩ v3) mb k g ∧ VB B ((((V.setCell ⟨B, 0, none⟩ v0).setCell ⟨B, 1, none⟩ v1).setCell ⟨B, 2, none⟩ v2).setCell ⟨B, 3, none⟩ v3) [v0, v1, v2, v3] := by
  have n1 : mb ≠ B := by omega
  refine ⟨(((hO.setCell hB _).setCell hB _).setCell hB _).setCell hB _, ?_, ?_, (((hm.set n1).set n1).set n1).set n1, (((hV.set 0 v0 (by simp)).set 1 v1 (by simp)).set 2 v2 (by simp)).set 3 v3 (by simp)⟩
  · have h9 : ∀ (o : Nat) (v : Value) (w : World), (w.setCell ⟨B, o, none⟩ v).cell? ⟨ob, oo, none⟩ = w.cell? ⟨ob, oo, none⟩ := fun o v w => World.cell?_setCell_other (h := fun e => by have := congrArg Addr.block e; simp at this; omega) ..
    rw [h9, h9, h9, h9]; exact hc
  · have h9 : ∀ (o : Nat) (v : Value) (w : World), (w.setCell ⟨B, o, none⟩ v).cell? ⟨g, 0, none⟩ = w.cell? ⟨g, 0, none⟩ := fun o v w => World.cell?_setCell_other (h := fun e => by have := congrArg Addr.block e; simp at this; omega) ..
    rw [h9, h9, h9, h9]; exact hg
theorem M0.put2 {w : World} {b : Nat} (h : M0 w b) (x : Int) (hx : 0 ≤ x ∧ x ≤ 255) (g : Nat) : ∃ w', (Instr.mapUpdate 124 (.map (some b)) (.int .u8 x) (.slice (some ⟨g, 0, none⟩) 1 1)).run Tryd.prog w = .ok () w' ∧ M1 w' b x g ∧ (∀ W, On W w → W.heap.size ≤ b → On W w') ∧ (∀ p v, w.cell? p = some v → w'.cell? p = some v) ∧ ∀ B l, VB B w l → B ≠ b → VB B w' l := by
  obtain ⟨w', h1, h2, hg⟩ := h.put x hx g
  refine ⟨w', h1, h2, fun W hW hb => ⟨hW.1, hW.2.grown hg hW.2.size (fun r hr => by simp only [Option.some.injEq] at hr; omega)⟩, fun p v hc => ?_, fun B l hb hne => hb.kept hg.size (hg.block _ hb.1 (by simp; exact hne))⟩
  have hne : p.block ≠ b := fun e => by
    obtain ⟨es, clock, hb, _⟩ := h
    unfold World.cell? at hc
    rw [e, hb] at hc
    simp at hc
  exact (World.cell?_of_block (hg.block _ (cell_size hc) (by simpa using hne))).trans hc
/-- The composer's box is filled. -/
theorem cmp_fill {W0 V : World} {cb ob oo mb : Nat} {x : Value} (hB : W0.heap.size ≤ cb) (hO : On W0 V) (hc : V.cell? ⟨ob, oo, none⟩ = some x) (hne : ob ≠ cb) (hm : M0 V mb) {z0 z1 z2 z3 : Value} (hV : VB cb V [z0, z1, z2, z3]) (v0 v1 v2 v3 : Value) :
    On W0 ((((V.setCell ⟨cb, 0, none⟩ v0).setCell ⟨cb, 1, none⟩ v1).setCell ⟨cb, 2, none⟩ v2).setCell ⟨cb, 3, none⟩ v3) ∧ ((((V.setCell ⟨cb, 0, none⟩ v0).setCell ⟨cb, 1, none⟩ v1).setCell ⟨cb, 2, none⟩ v2).setCell ⟨cb, 3, none⟩ v3).cell? ⟨ob, oo, none⟩ = some x ∧ M0 ((((V.setCell ⟨cb, 0, none⟩ v0).setCell ⟨cb, 1, none⟩ v1).setCell ⟨cb, 2, none⟩ v2).setCell ⟨cb, 3, none⟩ v3) mb ∧ VB cb ((((V.setCell ⟨cb, 0, none⟩ v0).setCell ⟨cb, 1, none⟩ v1).setCell ⟨cb, 2, none⟩ v2).setCell ⟨cb, 3, none⟩ v3) [v0, v1, v2, v3] := by
  have hne2 := ne_map hm hV
  refine ⟨(((hO.setCell hB _).setCell hB _).setCell hB _).setCell hB _, ?_, (((hm.set hne2).set hne2).set hne2).set hne2, (((hV.set 0 v0 (by simp)).set 1 v1 (by simp)).set 2 v2 (by simp)).set 3 v3 (by simp)⟩
  have ho : ∀ (o : Nat) (v : Value) (w : World), (w.setCell ⟨cb, o, none⟩ v).cell? ⟨ob, oo, none⟩ = w.cell? ⟨ob, oo, none⟩ := fun o v w => World.cell?_setCell_other (h := fun e => hne (congrArg Addr.block e).symm) ..
  rw [ho, ho, ho, ho]; exact hc
set_option maxHeartbeats 8000000 in
set_option maxRecDepth 100000 in
theorem composer1_yes (S : Sy) (a1 a2 a3 a4 : Option Addr) (k1 k2 k3 k4 : Nat) (a x : Nat) (pb po pc : Nat) (w : World) (hT : Tab w) (hR : SyR w ⟨a1, a2, a3, a4, k1, k2, k3, k4⟩ S) (hv : valSy S = true) (hp : S.perms.length = 0) (hl : S.looks.length = 0) (hons : onsL S = [2]) (hx : w.cell? ⟨pb, po, none⟩ = some (.int .u64 (x : Int))) (hx2 : x ≤ 18446744073709551615) :
    Calls Tryd.prog 81 #[syA S ⟨a1, a2, a3, a4, k1, k2, k3, k4⟩, .int .u64 (a : Int), .slice (some ⟨pb, po, none⟩) 1 pc] w fun e w' => (∃ ob oo oc mb g, e = .returned (.agg #[.int .i64 S.f, .int .u64 (a : Int), .slice (some ⟨ob, oo, none⟩) 1 oc, .map (some mb)]) ∧ w'.cell? ⟨ob, oo, none⟩ = some (.int .u8 2) ∧ M1 w' mb 2 g ∧ w'.cell? ⟨g, 0, none⟩ = some (.int .u64 ((invF S.f (dvO S.f S.rows.toNat 2 x) : Nat) : Int))) ∧ On w w' := by
  have hmm := @run_makeMap Tryd.prog
  have hs : szS S = true := by unfold valSy at hv; simp only [Bool.and_eq_true] at hv; exact hv.1
  obtain ⟨hvf, f1, f2, f3, f4, f5, f6, f7, f8, f9, fa, fb⟩ := szS_facts hs
  obtain ⟨r, hr⟩ : ∃ r : Nat, r = S.rows.toNat := ⟨_, rfl⟩
  have hrr : S.rows = (r : Int) := by omega
  have hr13 : r ≤ 13 := by omega
  obtain ⟨W0, hW0⟩ : ∃ W0, W0 = (w.alloc (syO S ⟨a1, a2, a3, a4, k1, k2, k3, k4⟩)).alloc (.cells #[.int .i64 0, .int .u64 0, .slice none 0 0, .map none] 126) := ⟨_, rfl⟩
  have hA1 := (On.refl hT).alloc (syO S ⟨a1, a2, a3, a4, k1, k2, k3, k4⟩)
  have hA2 := (On.refl hA1.tab).alloc (.cells #[.int .i64 0, .int .u64 0, .slice none 0 0, .map none] 126)
  have hO0 : On w W0 := by rw [hW0]; exact hA1.trans hA2
  obtain ⟨Q, hQ⟩ : ∃ Q, Q = w.heap.size := ⟨_, rfl⟩
  have hB0 : VB Q W0 (syL S ⟨a1, a2, a3, a4, k1, k2, k3, k4⟩) := by rw [hW0, hQ]; exact (vb_newS S _ w).on hA2
  have hB1 : VB (Q + 1) W0 [.int .i64 0, .int .u64 0, .slice none 0 0, .map none] := by
    have h := vb_new (w.alloc (syO S ⟨a1, a2, a3, a4, k1, k2, k3, k4⟩)) #[.int .i64 0, .int .u64 0, .slice none 0 0, .map none] 126
    rw [World.size_alloc] at h
    rw [hW0, hQ]; exact h
  have HSY : Hid (∀ wq, On W0 wq → _) := Lib.hid fun wq h => sy_cells (hB0.on h)
  have HON : Hid (∀ W, On W0 W → ∀ wq, On W wq → Calls Tryd.prog 29 #[syA S ⟨a1, a2, a3, a4, k1, k2, k3, k4⟩] wq fun e w' => (∃ ob oo oc, e = .returned (.slice (some ⟨ob, oo, none⟩) 1 oc) ∧ w'.cell? ⟨ob, oo, none⟩ = some (.int .u8 2) ∧ wq.heap.size ≤ ob) ∧ On wq w') := Lib.hid fun W hW wq h => (ons0_yes S a1 a2 a3 a4 k1 k2 k3 k4 wq h.tab (hR.on (hO0.trans (hW.trans h))) hv hp hl).mono fun e w' ⟨⟨u, he, hu, hfr⟩, ho⟩ => by
    rw [hons] at hu
    obtain ⟨oa, oc, rfl⟩ := hu.shape
    obtain ⟨ob, oo, e9, hc⟩ := hu.cells 0 (by simp)
    subst e9
    exact ⟨⟨ob, oo, oc, he, by simpa using hc, hfr ob oo 1 oc rfl⟩, ho⟩
  have HDV : Hid (∀ wq, On W0 wq → Calls Tryd.prog 80 #[.agg #[.int .i64 S.f, .int .i64 (r : Int)], .int .u8 2] wq fun e w' => (∃ B8 Q B7 B5, e = .returned (.func (.func 135) #[] #[.pointer (some ⟨B8, 0, none⟩), .pointer (some ⟨Q, 0, none⟩), .pointer (some ⟨B7, 0, none⟩), .pointer (some ⟨B5, 0, none⟩)]) ∧ DivF 135 #[.pointer (some ⟨B8, 0, none⟩), .pointer (some ⟨Q, 0, none⟩), .pointer (some ⟨B7, 0, none⟩), .pointer (some ⟨B5, 0, none⟩)] S.f r 2 w') ∧ On wq w') := Lib.hid fun wq h => divisor_2 S.f r wq h.tab hr13
  have HIN : Hid (∀ (y : Nat) (v : Value) (wq : World), On W0 wq → Reads wq v [y] → Calls Tryd.prog 137 #[.int .i64 S.f, v] wq fun e w' => e = .returned (.slice (some ⟨wq.heap.size, 0, none⟩) 1 1) ∧ w'.cell? ⟨wq.heap.size, 0, none⟩ = some (.int .u64 ((invF S.f y : Nat) : Int)) ∧ On wq w') := Lib.hid fun y v wq h hy => (invs_any S.f [y] v wq wq (On.refl h.tab) hy (by simp)).mono fun e w' ⟨_, h2, h3⟩ => by
    obtain ⟨h4, h5⟩ := h2 hvf
    exact ⟨h4, by have := h5.cell 0 (by simp [invsF]); simpa [invsF] using this, h3⟩
  have HX : Hid (∀ wq, On W0 wq → wq.cell? ⟨pb, po, none⟩ = some (.int .u64 (x : Int))) := Lib.hid fun wq h => cell_on (hO0.trans h) hx
  have HX2 := Lib.hid hx2
  have HDL : Hid (dvO S.f r 2 x ≤ 998244353) := Lib.hid (dvO_le _ _ _ _)
  have HB1 := Lib.hid hB1
  have HW0 := Lib.hid hW0; have HQ := Lib.hid hQ; have HO0 := Lib.hid hO0; have H00 := Lib.hid (On.refl hO0.tab)
  have HRR := Lib.hid hrr
  rw [← hr]
  clear hT hR hv hp hl hons hx hx2 hs hvf f1 f2 f3 f4 f5 f6 f7 f8 f9 fa fb hW0 hQ hO0 hA1 hA2 hB0 hB1 hr hrr
  go_enter Tryd.func81, Tryd.ntmps81
  go_upto_region 1 with fail
  rw [← HW0.out, ← HQ.out]
  obtain ⟨V0, hV0⟩ : ∃ V0, V0 = W0.drew := ⟨_, rfl⟩
  have hS0 : On W0 V0 := by rw [hV0]; exact H00.out.drew
  have HV0 := Lib.hid hS0
  refine region_head_tail (S := fun wx => On W0 wx) 8 (by kernel_rfl) (by kernel_rfl) ?_
  rw [← hV0]
  clear hV0
  refine HeadG.take (i := 0) (v := ?tv0) rfl (by kernel_rfl) (by kernel_rfl) (by kernel_rfl) (by kernel_rfl) (by kernel_rfl) (by kernel_rfl) (by kernel_rfl) (fun _ _ _ h => h) (Or.inl ⟨by rfl, ?ty0⟩) hS0 ?tr0
  case ty0 => (intro wq hwq; go_simp; try with_reducible rfl)
  try simp only [Act.put, List.setIfInBounds_toArray, List.set_cons_zero, List.set_cons_succ, List.getElem_toArray, List.getElem_cons_zero, List.getElem_cons_succ]
  refine HeadG.take (i := 1) (v := .int .i64 S.f) rfl (by kernel_rfl) (by kernel_rfl) (by kernel_rfl) (by kernel_rfl) (by kernel_rfl) (by kernel_rfl) (by kernel_rfl) (fun _ _ _ h => h) (Or.inl ⟨by rfl, ?ty1⟩) hS0 ?tr1
  case ty1 => (intro wq hwq; obtain ⟨s0, s1, s2, s3, s4, s5, s6, s7⟩ := HSY.out wq hwq; go_simp; try with_reducible rfl)
  try simp only [Act.put, List.setIfInBounds_toArray, List.set_cons_zero, List.set_cons_succ, List.getElem_toArray, List.getElem_cons_zero, List.getElem_cons_succ]
  refine HeadG.take (i := 2) (v := ?tv2) rfl (by kernel_rfl) (by kernel_rfl) (by kernel_rfl) (by kernel_rfl) (by kernel_rfl) (by kernel_rfl) (by kernel_rfl) (fun _ _ _ h => h) (Or.inl ⟨by rfl, ?ty2⟩) hS0 ?tr2
  case ty2 => (intro wq hwq; go_simp; try with_reducible rfl)
  try simp only [Act.put, List.setIfInBounds_toArray, List.set_cons_zero, List.set_cons_succ, List.getElem_toArray, List.getElem_cons_zero, List.getElem_cons_succ]
  refine HeadG.take (i := 3) (v := syA S ⟨a1, a2, a3, a4, k1, k2, k3, k4⟩) rfl (by kernel_rfl) (by kernel_rfl) (by kernel_rfl) (by kernel_rfl) (by kernel_rfl) (by kernel_rfl) (by kernel_rfl) (fun _ _ _ h => h) (Or.inl ⟨by rfl, ?ty3⟩) hS0 ?tr3
  case ty3 => (intro wq hwq; obtain ⟨s0, s1, s2, s3, s4, s5, s6, s7⟩ := HSY.out wq hwq; go_simp; try with_reducible rfl)
  try simp only [Act.put, List.setIfInBounds_toArray, List.set_cons_zero, List.set_cons_succ, List.getElem_toArray, List.getElem_cons_zero, List.getElem_cons_succ]
  refine HeadG.fork3z (i := 4) (j := 5) (k := 7) rfl rfl rfl (by kernel_rfl) (by kernel_rfl) (by kernel_rfl) (by kernel_rfl) (fun K9 hK9 => ?_) (fun K9 hK9 => ?_) (fun K9 hK9 => ?_)
  · go_simp
    go_at_call 29
    with_reducible refine (HON.out W0 H00.out _ HV0.out).mono ?_
    rintro e V1 ⟨⟨ob, oo, oc, rfl, hob, hfob⟩, hOc⟩
    have HV1 := Lib.hid (HV0.out.trans hOc)
    have HF1 := Lib.hid hob
    have HOBW := Lib.hid (show W0.heap.size ≤ ob from Nat.le_trans HV0.out.size hfob)
    refine hK9.out _ _ HV1.out ?_
    clear hK9 K9 hOc hob hfob
    try simp only [Act.put, List.setIfInBounds_toArray, List.set_cons_zero, List.set_cons_succ, List.getElem_toArray, List.getElem_cons_zero, List.getElem_cons_succ]
    refine HeadG.fork2 (i := 5) (j := 7) rfl rfl (by kernel_rfl) (by kernel_rfl) (by kernel_rfl) (fun K9 hK9 => ?_) (fun K9 hK9 => ?_)
    · go_simp
      have hOc : On V1 (V1.alloc (.map #[] 0)) := (On.refl HV1.out.tab).alloc _
      have HV2 := Lib.hid (HV1.out.trans hOc)
      have HF2 : Hid (M0 (V1.alloc (.map #[] 0)) V1.heap.size) := Lib.hid (World.ownsMap_made V1 _ _ _)
      have HF2x4 := Lib.hid (cell_on hOc HF1.out)
      obtain ⟨mb, hmb⟩ : ∃ m, m = V1.heap.size := ⟨_, rfl⟩
      rw [← hmb] at HF2
      rw [← hmb]
      have HMB := Lib.hid (show W0.heap.size ≤ mb by rw [hmb]; exact HV1.out.size)
      refine hK9.out _ _ HV2.out ?_
      clear hK9 K9 hOc hmb
      try simp only [Act.put, List.setIfInBounds_toArray, List.set_cons_zero, List.set_cons_succ, List.getElem_toArray, List.getElem_cons_zero, List.getElem_cons_succ]
      generalize hw : V1.alloc (.map #[] 0) = V2 at *
      clear hw
      refine HeadG.take (i := 6) (v := .agg #[.int .i64 S.f, .int .u64 (a : Int), .slice (some ⟨ob, oo, none⟩) 1 oc, .map (some mb)]) rfl (by kernel_rfl) (by kernel_rfl) (by kernel_rfl) (by kernel_rfl) (by kernel_rfl) (by kernel_rfl) (by kernel_rfl) (fun _ _ _ h => h) (Or.inl ⟨by rfl, ?y6x3⟩) HV2.out ?r6x3
      case y6x3 => (intro wq hwq; go_simp; try with_reducible rfl)
      try simp only [Act.put, List.setIfInBounds_toArray, List.set_cons_zero, List.set_cons_succ, List.getElem_toArray, List.getElem_cons_zero, List.getElem_cons_succ]
      refine HeadG.one (i := 7) rfl (by kernel_rfl) (by kernel_rfl) (fun K9 hK9 => ?_)
      go_simp
      have hOc : On V2 (V2.alloc (.cells #[.int .i64 0, .int .u64 0, .slice none 0 0, .map none] 126)) := (On.refl HV2.out.tab).alloc _
      have HV4 := Lib.hid (HV2.out.trans hOc)
      have HF4 : Hid (VB V2.heap.size (V2.alloc (.cells #[.int .i64 0, .int .u64 0, .slice none 0 0, .map none] 126)) [.int .i64 0, .int .u64 0, .slice none 0 0, .map none]) := Lib.hid (vb_new V2 _ _)
      have HF4x4 := Lib.hid (cell_on hOc HF2x4.out)
      have HF4x5 := Lib.hid (HF2.out.on hOc)
      obtain ⟨cb, hcb⟩ : ∃ m, m = V2.heap.size := ⟨_, rfl⟩
      rw [← hcb] at HF4
      rw [← hcb]
      have HCB := Lib.hid (show W0.heap.size ≤ cb by rw [hcb]; exact HV2.out.size)
      have HNE : Hid (ob ≠ cb) := Lib.hid (by have h9 := cell_size HF2x4.out; rw [hcb]; simp at h9; omega)
      refine hK9.out _ _ HV4.out ?_
      clear hK9 K9 hOc hcb
      try simp only [Act.put, List.setIfInBounds_toArray, List.set_cons_zero, List.set_cons_succ, List.getElem_toArray, List.getElem_cons_zero, List.getElem_cons_succ]
      generalize hw : V2.alloc (.cells #[.int .i64 0, .int .u64 0, .slice none 0 0, .map none] 126) = V4 at *
      clear hw
      have hcs := HF4.out
      obtain ⟨p0, p1, p2, p3⟩ : _ ∧ _ ∧ _ ∧ _ := ⟨hcs.2.1 0 _ rfl, hcs.2.1 1 _ rfl, hcs.2.1 2 _ rfl, hcs.2.1 3 _ rfl⟩
      have q0 := hcs.2.2 0
      have q1 := hcs.2.2 1
      have q2 := hcs.2.2 2
      have q3 := hcs.2.2 3
      refine HeadG.last (i := 8) rfl (by kernel_rfl) (by kernel_rfl) (by kernel_rfl) (fun K9 hK9 => ?_)
      go_simp
      refine hK9.out _ _ ?_
      clear hK9 K9
      try simp only [Act.put, List.setIfInBounds_toArray, List.set_cons_zero, List.set_cons_succ, List.getElem_toArray, List.getElem_cons_zero, List.getElem_cons_succ]
      have hv0 := HV4.out
      have hob9 := HF4x4.out
      have hmb9 := HF4x5.out
      obtain ⟨U, hUe⟩ : ∃ U, U = ((((V4.setCell ⟨cb, 0, none⟩ (.int .i64 S.f)).setCell ⟨cb, 1, none⟩ (.int .u64 (a : Int))).setCell ⟨cb, 2, none⟩ (.slice (some ⟨ob, oo, none⟩) 1 oc)).setCell ⟨cb, 3, none⟩ (.map (some mb))) := ⟨_, rfl⟩
      have HU := Lib.hid (cmp_fill HCB.out hv0 hob9 HNE.out hmb9 hcs (.int .i64 S.f) (.int .u64 (a : Int)) (.slice (some ⟨ob, oo, none⟩) 1 oc) (.map (some mb)))
      rw [← hUe] at HU
      rw [← hUe]
      clear hUe hcs p0 p1 p2 p3 q0 q1 q2 q3 hv0 hob9 hmb9
      obtain ⟨hOU, hobU, hmU, hcU⟩ := HU.out
      have p0 := hcU.2.1 0 _ rfl
      have p1 := hcU.2.1 1 _ rfl
      have p2 := hcU.2.1 2 _ rfl
      have p3 := hcU.2.1 3 _ rfl
      have hlk := hmU.look 2 (by omega)
      obtain ⟨s0, s1, s2, s3, s4, s5, s6, s7⟩ := HSY.out U hOU
      rw [HRR.out] at s1
      have hx0 := HX.out U hOU
      go_wp2_with fail
      refine wp_loop_rounds 2 ?_
      rw [rounds_succ]
      go_wp2_with (go_at_call 80; (with_reducible refine (HDV.out U hOU).mono ?_); rintro e w2 ⟨⟨B8, Q9, B7, B5, rfl, hD⟩, hO2⟩)
      have hOU2 := hOU.trans hO2
      have hx9 := HX.out w2 hOU2
      have hyl := HDL.out
      have hC : Calls Tryd.prog 135 #[.int .u64 (x : Int), .pointer (some ⟨B8, 0, none⟩), .pointer (some ⟨Q9, 0, none⟩), .pointer (some ⟨B7, 0, none⟩), .pointer (some ⟨B5, 0, none⟩)] w2 fun e w' => e = .returned (.int .u64 ((dvO S.f r 2 x : Nat) : Int)) ∧ On w2 w' := hD w2 x (On.refl hO2.tab) HX2.out
      clear hD hx0 s0 s1 s2 s3 s4 s5 s6 s7 p0 p1 p2 p3 hlk
      obtain ⟨y, hy⟩ : ∃ y, y = dvO S.f r 2 x := ⟨_, rfl⟩
      rw [← hy] at hC hyl
      have HY := Lib.hid hy
      clear hy
      refine wp_loop_rounds 2 ?_
      rw [rounds_succ]
      go_wp2_with (first
        | (go_at_call 135; (with_reducible refine hC.mono ?_); rintro e w3 ⟨rfl, hO3⟩; obtain ⟨v', w', hrun, hown', hOn⟩ := app_u64 (World.ownsRow_nil w3 w3.heap.size 42 1) (Nat.le_refl _) (y : Int) (by omega))
        | (at_builtin; refine wp_appendJ rfl (.tmp 51) (.tmp 55) _ _ rfl _ _ v' rfl rfl hrun ?_)
        | fail)
      rw [rounds_succ]
      have hO4 := (hO2.trans hO3).trans (hOn w3 (On.refl hO3.tab) (Nat.le_refl _))
      go_upto_region 14 with fail
      have HRD : Reads w' v' [y] := (own_nr (l := [y]) (by simpa [u64s] using hown') (by simp; omega) (by simp)).1
      have HRZ := Lib.hid HRD
      have HO4 := Lib.hid hO4
      have HOW := Lib.hid (hOU.trans hO4)
      have HSYz : Hid (∀ wq, On w' wq → _) := Lib.hid fun wq h => HSY.out wq (HOW.out.trans h)
      have HPz : Hid (∀ wq, On w' wq → wq.cell? ⟨cb, 3, none⟩ = some (.map (some mb))) := Lib.hid fun wq h => (hcU.on (HO4.out.trans h)).2.1 3 _ rfl
      obtain ⟨Vz, hVz⟩ : ∃ V, V = w'.drew := ⟨_, rfl⟩
      have hSz : On w' Vz := by rw [hVz]; exact (On.refl HO4.out.tab).drew
      refine region_head_tail (S := fun wx => On w' wx) 7 (by kernel_rfl) (by kernel_rfl) ?_
      rw [← hVz]
      clear hVz hrun hown' hOn hC hO2 hO3 hO4 hOU2 hx9
      refine HeadG.take (i := 0) (v := ?g0v0) rfl (by kernel_rfl) (by kernel_rfl) (by kernel_rfl) (by kernel_rfl) (by kernel_rfl) (by kernel_rfl) (by kernel_rfl) (fun _ _ _ h => h) (Or.inl ⟨by rfl, ?g0y0⟩) hSz ?g0r0
      case g0y0 => (intro wq hwq; go_simp; try with_reducible rfl)
      try simp only [Act.put, List.setIfInBounds_toArray, List.set_cons_zero, List.set_cons_succ, List.getElem_toArray, List.getElem_cons_zero, List.getElem_cons_succ]
      refine HeadG.take (i := 1) (v := .map (some mb)) rfl (by kernel_rfl) (by kernel_rfl) (by kernel_rfl) (by kernel_rfl) (by kernel_rfl) (by kernel_rfl) (by kernel_rfl) (fun _ _ _ h => h) (Or.inl ⟨by rfl, ?g0y1⟩) hSz ?g0r1
      case g0y1 => (intro wq hwq; have p3 := HPz.out wq hwq; go_simp; try with_reducible rfl)
      try simp only [Act.put, List.setIfInBounds_toArray, List.set_cons_zero, List.set_cons_succ, List.getElem_toArray, List.getElem_cons_zero, List.getElem_cons_succ]
      refine HeadG.take (i := 2) (v := ?g0v2) rfl (by kernel_rfl) (by kernel_rfl) (by kernel_rfl) (by kernel_rfl) (by kernel_rfl) (by kernel_rfl) (by kernel_rfl) (fun _ _ _ h => h) (Or.inl ⟨by rfl, ?g0y2⟩) hSz ?g0r2
      case g0y2 => (intro wq hwq; go_simp; try with_reducible rfl)
      try simp only [Act.put, List.setIfInBounds_toArray, List.set_cons_zero, List.set_cons_succ, List.getElem_toArray, List.getElem_cons_zero, List.getElem_cons_succ]
      refine HeadG.take (i := 3) (v := ?g0v3) rfl (by kernel_rfl) (by kernel_rfl) (by kernel_rfl) (by kernel_rfl) (by kernel_rfl) (by kernel_rfl) (by kernel_rfl) (fun _ _ _ h => h) (Or.inl ⟨by rfl, ?g0y3⟩) hSz ?g0r3
      case g0y3 => (intro wq hwq; go_simp; try with_reducible rfl)
      try simp only [Act.put, List.setIfInBounds_toArray, List.set_cons_zero, List.set_cons_succ, List.getElem_toArray, List.getElem_cons_zero, List.getElem_cons_succ]
      refine HeadG.take (i := 4) (v := .int .i64 S.f) rfl (by kernel_rfl) (by kernel_rfl) (by kernel_rfl) (by kernel_rfl) (by kernel_rfl) (by kernel_rfl) (by kernel_rfl) (fun _ _ _ h => h) (Or.inl ⟨by rfl, ?g0y4⟩) hSz ?g0r4
      case g0y4 => (intro wq hwq; obtain ⟨s0, s1, s2, s3, s4, s5, s6, s7⟩ := HSYz.out wq hwq; go_simp; try with_reducible rfl)
      try simp only [Act.put, List.setIfInBounds_toArray, List.set_cons_zero, List.set_cons_succ, List.getElem_toArray, List.getElem_cons_zero, List.getElem_cons_succ]
      refine HeadG.take (i := 5) (v := ?g0v5) rfl (by kernel_rfl) (by kernel_rfl) (by kernel_rfl) (by kernel_rfl) (by kernel_rfl) (by kernel_rfl) (by kernel_rfl) (fun _ _ _ h => h) (Or.inl ⟨by rfl, ?g0y5⟩) hSz ?g0r5
      case g0y5 => (intro wq hwq; go_simp; try with_reducible rfl)
      try simp only [Act.put, List.setIfInBounds_toArray, List.set_cons_zero, List.set_cons_succ, List.getElem_toArray, List.getElem_cons_zero, List.getElem_cons_succ]
      refine HeadG.one (i := 6) rfl (by kernel_rfl) (by kernel_rfl) (fun K9 hK9 => ?_)
      go_simp
      go_at_call 137
      (with_reducible refine (HIN.out y _ _ (HOW.out.trans hSz) (HRZ.out.on hSz)).mono ?_)
      rintro e w5 ⟨rfl, hg5, hO5⟩
      have hSw : On w' w5 := hSz.trans hO5
      refine hK9.out _ _ hSw ?_
      clear hK9 K9
      try simp only [Act.put, List.setIfInBounds_toArray, List.set_cons_zero, List.set_cons_succ, List.getElem_toArray, List.getElem_cons_zero, List.getElem_cons_succ]
      obtain ⟨g, hge⟩ : ∃ g, g = Vz.heap.size := ⟨_, rfl⟩
      have HGW := Lib.hid (show W0.heap.size ≤ g by rw [hge]; exact (HOW.out.trans hSz).size)
      rw [← hge] at hg5
      rw [← hge]
      clear hge
      obtain ⟨w6, hput, hm6, hOn6, hc6, hv6⟩ := M0.put2 (hmU.on (HO4.out.trans hSw)) 2 (by omega) g
      have HO6 := Lib.hid (hOn6 W0 (HOW.out.trans hSw) HMB.out)
      have HM6 := Lib.hid hm6
      have HG6 := Lib.hid (hc6 _ _ hg5)
      have HOB6 := Lib.hid (hc6 _ _ (cell_on (HO4.out.trans hSw) hobU))
      have HC6 := Lib.hid (hv6 _ _ (hcU.on (HO4.out.trans hSw)) (fun e => ne_map hmU hcU e.symm))
      refine HeadG.last (i := 7) rfl (by kernel_rfl) (by kernel_rfl) (by kernel_rfl) (fun K9 hK9 => ?_)
      go_simp
      refine hK9.out _ _ ?_
      clear hK9 K9
      try simp only [Act.put, List.setIfInBounds_toArray, List.set_cons_zero, List.set_cons_succ, List.getElem_toArray, List.getElem_cons_zero, List.getElem_cons_succ]
      clear hput hm6 hOn6 hc6 hv6 hg5 hO5 hSw hSz hOU hobU hmU hcU HU
      have HQ6 := Lib.hid (HB1.out.on HO6.out)
      have p0 := HC6.out.2.1 0 _ rfl
      have p1 := HC6.out.2.1 1 _ rfl
      have p2 := HC6.out.2.1 2 _ rfl
      have p3 := HC6.out.2.1 3 _ rfl
      have q0 := HQ6.out.2.1 0 _ rfl
      have q1 := HQ6.out.2.1 1 _ rfl
      have q2 := HQ6.out.2.1 2 _ rfl
      have q3 := HQ6.out.2.1 3 _ rfl
      have z0 := HQ6.out.2.2 0
      have z1 := HQ6.out.2.2 1
      have z2 := HQ6.out.2.2 2
      have z3 := HQ6.out.2.2 3
      go_wp2_with fail
      rw [rounds_succ]
      go_wp2_with fail
      obtain ⟨X, hXe⟩ : ∃ X, X = ((((w6.setCell ⟨Q + 1, 0, none⟩ (.int .i64 S.f)).setCell ⟨Q + 1, 1, none⟩ (.int .u64 (a : Int))).setCell ⟨Q + 1, 2, none⟩ (.slice (some ⟨ob, oo, none⟩) 1 oc)).setCell ⟨Q + 1, 3, none⟩ (.map (some mb))) := ⟨_, rfl⟩
      have HDN := Lib.hid (cmp_done (show w.heap.size ≤ Q + 1 by have := HQ.out; omega) HB1.out.1 (HO0.out.trans HO6.out) HOB6.out HOBW.out HG6.out HGW.out HMB.out HM6.out HQ6.out (.int .i64 S.f) (.int .u64 (a : Int)) (.slice (some ⟨ob, oo, none⟩) 1 oc) (.map (some mb)))
      rw [← hXe] at HDN
      rw [← hXe]
      clear hXe p0 p1 p2 p3 q0 q1 q2 q3 z0 z1 z2 z3
      have t0 := HDN.out.2.2.2.2.2.1 0 _ rfl
      have t1 := HDN.out.2.2.2.2.2.1 1 _ rfl
      have t2 := HDN.out.2.2.2.2.2.1 2 _ rfl
      have t3 := HDN.out.2.2.2.2.2.1 3 _ rfl
      refine bodyPost_ret (v := .agg #[.int .i64 S.f, .int .u64 (a : Int), .slice (some ⟨ob, oo, none⟩) 1 oc, .map (some mb)]) (by simp [results, Tryd.results81, go_sem, t0, t1, t2, t3]; try rfl) rfl ?_
      exact ⟨⟨ob, oo, oc, mb, g, rfl, HDN.out.2.1, HDN.out.2.2.2.1, by rw [← HY.out]; exact HDN.out.2.2.1⟩, HDN.out.1⟩
    · go_simp
      have hOc : On V1 (V1.alloc (.cells #[.int .i64 0, .int .u64 0, .slice none 0 0, .map none] 126)) := (On.refl HV1.out.tab).alloc _
      have HV5 := Lib.hid (HV1.out.trans hOc)
      have HF5 : Hid (VB V1.heap.size (V1.alloc (.cells #[.int .i64 0, .int .u64 0, .slice none 0 0, .map none] 126)) [.int .i64 0, .int .u64 0, .slice none 0 0, .map none]) := Lib.hid (vb_new V1 _ _)
      have HF5x4 := Lib.hid (cell_on hOc HF1.out)
      obtain ⟨cb, hcb⟩ : ∃ m, m = V1.heap.size := ⟨_, rfl⟩
      rw [← hcb] at HF5
      rw [← hcb]
      have HCB := Lib.hid (show W0.heap.size ≤ cb by rw [hcb]; exact HV1.out.size)
      have HNE : Hid (ob ≠ cb) := Lib.hid (by have h9 := cell_size HF1.out; rw [hcb]; simp at h9; omega)
      refine hK9.out _ _ HV5.out ?_
      clear hK9 K9 hOc hcb
      try simp only [Act.put, List.setIfInBounds_toArray, List.set_cons_zero, List.set_cons_succ, List.getElem_toArray, List.getElem_cons_zero, List.getElem_cons_succ]
      generalize hw : V1.alloc (.cells #[.int .i64 0, .int .u64 0, .slice none 0 0, .map none] 126) = V5 at *
      clear hw
      refine HeadG.one (i := 5) rfl (by kernel_rfl) (by kernel_rfl) (fun K9 hK9 => ?_)
      go_simp
      have hOc : On V5 (V5.alloc (.map #[] 0)) := (On.refl HV5.out.tab).alloc _
      have HV6 := Lib.hid (HV5.out.trans hOc)
      have HF6 : Hid (M0 (V5.alloc (.map #[] 0)) V5.heap.size) := Lib.hid (World.ownsMap_made V5 _ _ _)
      have HF6x4 := Lib.hid (cell_on hOc HF5x4.out)
      have HF6x7 := Lib.hid (HF5.out.on hOc)
      obtain ⟨mb, hmb⟩ : ∃ m, m = V5.heap.size := ⟨_, rfl⟩
      rw [← hmb] at HF6
      rw [← hmb]
      have HMB := Lib.hid (show W0.heap.size ≤ mb by rw [hmb]; exact HV5.out.size)
      refine hK9.out _ _ HV6.out ?_
      clear hK9 K9 hOc hmb
      try simp only [Act.put, List.setIfInBounds_toArray, List.set_cons_zero, List.set_cons_succ, List.getElem_toArray, List.getElem_cons_zero, List.getElem_cons_succ]
      generalize hw : V5.alloc (.map #[] 0) = V6 at *
      clear hw
      refine HeadG.take (i := 6) (v := .agg #[.int .i64 S.f, .int .u64 (a : Int), .slice (some ⟨ob, oo, none⟩) 1 oc, .map (some mb)]) rfl (by kernel_rfl) (by kernel_rfl) (by kernel_rfl) (by kernel_rfl) (by kernel_rfl) (by kernel_rfl) (by kernel_rfl) (fun _ _ _ h => h) (Or.inl ⟨by rfl, ?y6x7⟩) HV6.out ?r6x7
      case y6x7 => (intro wq hwq; go_simp; try with_reducible rfl)
      try simp only [Act.put, List.setIfInBounds_toArray, List.set_cons_zero, List.set_cons_succ, List.getElem_toArray, List.getElem_cons_zero, List.getElem_cons_succ]
      have hcs := HF6x7.out
      obtain ⟨p0, p1, p2, p3⟩ : _ ∧ _ ∧ _ ∧ _ := ⟨hcs.2.1 0 _ rfl, hcs.2.1 1 _ rfl, hcs.2.1 2 _ rfl, hcs.2.1 3 _ rfl⟩
      have q0 := hcs.2.2 0
      have q1 := hcs.2.2 1
      have q2 := hcs.2.2 2
      have q3 := hcs.2.2 3
      refine HeadG.last (i := 8) rfl (by kernel_rfl) (by kernel_rfl) (by kernel_rfl) (fun K9 hK9 => ?_)
      go_simp
      refine hK9.out _ _ ?_
      clear hK9 K9
      try simp only [Act.put, List.setIfInBounds_toArray, List.set_cons_zero, List.set_cons_succ, List.getElem_toArray, List.getElem_cons_zero, List.getElem_cons_succ]
      have hv0 := HV6.out
      have hob9 := HF6x4.out
      have hmb9 := HF6.out
      obtain ⟨U, hUe⟩ : ∃ U, U = ((((V6.setCell ⟨cb, 0, none⟩ (.int .i64 S.f)).setCell ⟨cb, 1, none⟩ (.int .u64 (a : Int))).setCell ⟨cb, 2, none⟩ (.slice (some ⟨ob, oo, none⟩) 1 oc)).setCell ⟨cb, 3, none⟩ (.map (some mb))) := ⟨_, rfl⟩
      have HU := Lib.hid (cmp_fill HCB.out hv0 hob9 HNE.out hmb9 hcs (.int .i64 S.f) (.int .u64 (a : Int)) (.slice (some ⟨ob, oo, none⟩) 1 oc) (.map (some mb)))
      rw [← hUe] at HU
      rw [← hUe]
      clear hUe hcs p0 p1 p2 p3 q0 q1 q2 q3 hv0 hob9 hmb9
      obtain ⟨hOU, hobU, hmU, hcU⟩ := HU.out
      have p0 := hcU.2.1 0 _ rfl
      have p1 := hcU.2.1 1 _ rfl
      have p2 := hcU.2.1 2 _ rfl
      have p3 := hcU.2.1 3 _ rfl
      have hlk := hmU.look 2 (by omega)
      obtain ⟨s0, s1, s2, s3, s4, s5, s6, s7⟩ := HSY.out U hOU
      rw [HRR.out] at s1
      have hx0 := HX.out U hOU
      go_wp2_with fail
      refine wp_loop_rounds 2 ?_
      rw [rounds_succ]
      go_wp2_with (go_at_call 80; (with_reducible refine (HDV.out U hOU).mono ?_); rintro e w2 ⟨⟨B8, Q9, B7, B5, rfl, hD⟩, hO2⟩)
      have hOU2 := hOU.trans hO2
      have hx9 := HX.out w2 hOU2
      have hyl := HDL.out
      have hC : Calls Tryd.prog 135 #[.int .u64 (x : Int), .pointer (some ⟨B8, 0, none⟩), .pointer (some ⟨Q9, 0, none⟩), .pointer (some ⟨B7, 0, none⟩), .pointer (some ⟨B5, 0, none⟩)] w2 fun e w' => e = .returned (.int .u64 ((dvO S.f r 2 x : Nat) : Int)) ∧ On w2 w' := hD w2 x (On.refl hO2.tab) HX2.out
      clear hD hx0 s0 s1 s2 s3 s4 s5 s6 s7 p0 p1 p2 p3 hlk
      obtain ⟨y, hy⟩ : ∃ y, y = dvO S.f r 2 x := ⟨_, rfl⟩
      rw [← hy] at hC hyl
      have HY := Lib.hid hy
      clear hy
      refine wp_loop_rounds 2 ?_
      rw [rounds_succ]
      go_wp2_with (first
        | (go_at_call 135; (with_reducible refine hC.mono ?_); rintro e w3 ⟨rfl, hO3⟩; obtain ⟨v', w', hrun, hown', hOn⟩ := app_u64 (World.ownsRow_nil w3 w3.heap.size 42 1) (Nat.le_refl _) (y : Int) (by omega))
        | (at_builtin; refine wp_appendJ rfl (.tmp 51) (.tmp 55) _ _ rfl _ _ v' rfl rfl hrun ?_)
        | fail)
      rw [rounds_succ]
      have hO4 := (hO2.trans hO3).trans (hOn w3 (On.refl hO3.tab) (Nat.le_refl _))
      go_upto_region 14 with fail
      have HRD : Reads w' v' [y] := (own_nr (l := [y]) (by simpa [u64s] using hown') (by simp; omega) (by simp)).1
      have HRZ := Lib.hid HRD
      have HO4 := Lib.hid hO4
      have HOW := Lib.hid (hOU.trans hO4)
      have HSYz : Hid (∀ wq, On w' wq → _) := Lib.hid fun wq h => HSY.out wq (HOW.out.trans h)
      have HPz : Hid (∀ wq, On w' wq → wq.cell? ⟨cb, 3, none⟩ = some (.map (some mb))) := Lib.hid fun wq h => (hcU.on (HO4.out.trans h)).2.1 3 _ rfl
      obtain ⟨Vz, hVz⟩ : ∃ V, V = w'.drew := ⟨_, rfl⟩
      have hSz : On w' Vz := by rw [hVz]; exact (On.refl HO4.out.tab).drew
      refine region_head_tail (S := fun wx => On w' wx) 7 (by kernel_rfl) (by kernel_rfl) ?_
      rw [← hVz]
      clear hVz hrun hown' hOn hC hO2 hO3 hO4 hOU2 hx9
      refine HeadG.take (i := 0) (v := ?g1v0) rfl (by kernel_rfl) (by kernel_rfl) (by kernel_rfl) (by kernel_rfl) (by kernel_rfl) (by kernel_rfl) (by kernel_rfl) (fun _ _ _ h => h) (Or.inl ⟨by rfl, ?g1y0⟩) hSz ?g1r0
      case g1y0 => (intro wq hwq; go_simp; try with_reducible rfl)
      try simp only [Act.put, List.setIfInBounds_toArray, List.set_cons_zero, List.set_cons_succ, List.getElem_toArray, List.getElem_cons_zero, List.getElem_cons_succ]
      refine HeadG.take (i := 1) (v := .map (some mb)) rfl (by kernel_rfl) (by kernel_rfl) (by kernel_rfl) (by kernel_rfl) (by kernel_rfl) (by kernel_rfl) (by kernel_rfl) (fun _ _ _ h => h) (Or.inl ⟨by rfl, ?g1y1⟩) hSz ?g1r1
      case g1y1 => (intro wq hwq; have p3 := HPz.out wq hwq; go_simp; try with_reducible rfl)
      try simp only [Act.put, List.setIfInBounds_toArray, List.set_cons_zero, List.set_cons_succ, List.getElem_toArray, List.getElem_cons_zero, List.getElem_cons_succ]
      refine HeadG.take (i := 2) (v := ?g1v2) rfl (by kernel_rfl) (by kernel_rfl) (by kernel_rfl) (by kernel_rfl) (by kernel_rfl) (by kernel_rfl) (by kernel_rfl) (fun _ _ _ h => h) (Or.inl ⟨by rfl, ?g1y2⟩) hSz ?g1r2
      case g1y2 => (intro wq hwq; go_simp; try with_reducible rfl)
      try simp only [Act.put, List.setIfInBounds_toArray, List.set_cons_zero, List.set_cons_succ, List.getElem_toArray, List.getElem_cons_zero, List.getElem_cons_succ]
      refine HeadG.take (i := 3) (v := ?g1v3) rfl (by kernel_rfl) (by kernel_rfl) (by kernel_rfl) (by kernel_rfl) (by kernel_rfl) (by kernel_rfl) (by kernel_rfl) (fun _ _ _ h => h) (Or.inl ⟨by rfl, ?g1y3⟩) hSz ?g1r3
      case g1y3 => (intro wq hwq; go_simp; try with_reducible rfl)
      try simp only [Act.put, List.setIfInBounds_toArray, List.set_cons_zero, List.set_cons_succ, List.getElem_toArray, List.getElem_cons_zero, List.getElem_cons_succ]
      refine HeadG.take (i := 4) (v := .int .i64 S.f) rfl (by kernel_rfl) (by kernel_rfl) (by kernel_rfl) (by kernel_rfl) (by kernel_rfl) (by kernel_rfl) (by kernel_rfl) (fun _ _ _ h => h) (Or.inl ⟨by rfl, ?g1y4⟩) hSz ?g1r4
      case g1y4 => (intro wq hwq; obtain ⟨s0, s1, s2, s3, s4, s5, s6, s7⟩ := HSYz.out wq hwq; go_simp; try with_reducible rfl)
      try simp only [Act.put, List.setIfInBounds_toArray, List.set_cons_zero, List.set_cons_succ, List.getElem_toArray, List.getElem_cons_zero, List.getElem_cons_succ]
      refine HeadG.take (i := 5) (v := ?g1v5) rfl (by kernel_rfl) (by kernel_rfl) (by kernel_rfl) (by kernel_rfl) (by kernel_rfl) (by kernel_rfl) (by kernel_rfl) (fun _ _ _ h => h) (Or.inl ⟨by rfl, ?g1y5⟩) hSz ?g1r5
      case g1y5 => (intro wq hwq; go_simp; try with_reducible rfl)
      try simp only [Act.put, List.setIfInBounds_toArray, List.set_cons_zero, List.set_cons_succ, List.getElem_toArray, List.getElem_cons_zero, List.getElem_cons_succ]
      refine HeadG.one (i := 6) rfl (by kernel_rfl) (by kernel_rfl) (fun K9 hK9 => ?_)
      go_simp
      go_at_call 137
      (with_reducible refine (HIN.out y _ _ (HOW.out.trans hSz) (HRZ.out.on hSz)).mono ?_)
      rintro e w5 ⟨rfl, hg5, hO5⟩
      have hSw : On w' w5 := hSz.trans hO5
      refine hK9.out _ _ hSw ?_
      clear hK9 K9
      try simp only [Act.put, List.setIfInBounds_toArray, List.set_cons_zero, List.set_cons_succ, List.getElem_toArray, List.getElem_cons_zero, List.getElem_cons_succ]
      obtain ⟨g, hge⟩ : ∃ g, g = Vz.heap.size := ⟨_, rfl⟩
      have HGW := Lib.hid (show W0.heap.size ≤ g by rw [hge]; exact (HOW.out.trans hSz).size)
      rw [← hge] at hg5
      rw [← hge]
      clear hge
      obtain ⟨w6, hput, hm6, hOn6, hc6, hv6⟩ := M0.put2 (hmU.on (HO4.out.trans hSw)) 2 (by omega) g
      have HO6 := Lib.hid (hOn6 W0 (HOW.out.trans hSw) HMB.out)
      have HM6 := Lib.hid hm6
      have HG6 := Lib.hid (hc6 _ _ hg5)
      have HOB6 := Lib.hid (hc6 _ _ (cell_on (HO4.out.trans hSw) hobU))
      have HC6 := Lib.hid (hv6 _ _ (hcU.on (HO4.out.trans hSw)) (fun e => ne_map hmU hcU e.symm))
      refine HeadG.last (i := 7) rfl (by kernel_rfl) (by kernel_rfl) (by kernel_rfl) (fun K9 hK9 => ?_)
      go_simp
      refine hK9.out _ _ ?_
      clear hK9 K9
      try simp only [Act.put, List.setIfInBounds_toArray, List.set_cons_zero, List.set_cons_succ, List.getElem_toArray, List.getElem_cons_zero, List.getElem_cons_succ]
      clear hput hm6 hOn6 hc6 hv6 hg5 hO5 hSw hSz hOU hobU hmU hcU HU
      have HQ6 := Lib.hid (HB1.out.on HO6.out)
      have p0 := HC6.out.2.1 0 _ rfl
      have p1 := HC6.out.2.1 1 _ rfl
      have p2 := HC6.out.2.1 2 _ rfl
      have p3 := HC6.out.2.1 3 _ rfl
      have q0 := HQ6.out.2.1 0 _ rfl
      have q1 := HQ6.out.2.1 1 _ rfl
      have q2 := HQ6.out.2.1 2 _ rfl
      have q3 := HQ6.out.2.1 3 _ rfl
      have z0 := HQ6.out.2.2 0
      have z1 := HQ6.out.2.2 1
      have z2 := HQ6.out.2.2 2
      have z3 := HQ6.out.2.2 3
      go_wp2_with fail
      rw [rounds_succ]
      go_wp2_with fail
      obtain ⟨X, hXe⟩ : ∃ X, X = ((((w6.setCell ⟨Q + 1, 0, none⟩ (.int .i64 S.f)).setCell ⟨Q + 1, 1, none⟩ (.int .u64 (a : Int))).setCell ⟨Q + 1, 2, none⟩ (.slice (some ⟨ob, oo, none⟩) 1 oc)).setCell ⟨Q + 1, 3, none⟩ (.map (some mb))) := ⟨_, rfl⟩
      have HDN := Lib.hid (cmp_done (show w.heap.size ≤ Q + 1 by have := HQ.out; omega) HB1.out.1 (HO0.out.trans HO6.out) HOB6.out HOBW.out HG6.out HGW.out HMB.out HM6.out HQ6.out (.int .i64 S.f) (.int .u64 (a : Int)) (.slice (some ⟨ob, oo, none⟩) 1 oc) (.map (some mb)))
      rw [← hXe] at HDN
      rw [← hXe]
      clear hXe p0 p1 p2 p3 q0 q1 q2 q3 z0 z1 z2 z3
      have t0 := HDN.out.2.2.2.2.2.1 0 _ rfl
      have t1 := HDN.out.2.2.2.2.2.1 1 _ rfl
      have t2 := HDN.out.2.2.2.2.2.1 2 _ rfl
      have t3 := HDN.out.2.2.2.2.2.1 3 _ rfl
      refine bodyPost_ret (v := .agg #[.int .i64 S.f, .int .u64 (a : Int), .slice (some ⟨ob, oo, none⟩) 1 oc, .map (some mb)]) (by simp [results, Tryd.results81, go_sem, t0, t1, t2, t3]; try rfl) rfl ?_
      exact ⟨⟨ob, oo, oc, mb, g, rfl, HDN.out.2.1, HDN.out.2.2.2.1, by rw [← HY.out]; exact HDN.out.2.2.1⟩, HDN.out.1⟩
  · go_simp
    have hOc : On V0 (V0.alloc (.map #[] 0)) := (On.refl HV0.out.tab).alloc _
    have HV8 := Lib.hid (HV0.out.trans hOc)
    have HF8 : Hid (M0 (V0.alloc (.map #[] 0)) V0.heap.size) := Lib.hid (World.ownsMap_made V0 _ _ _)
    obtain ⟨mb, hmb⟩ : ∃ m, m = V0.heap.size := ⟨_, rfl⟩
    rw [← hmb] at HF8
    rw [← hmb]
    have HMB := Lib.hid (show W0.heap.size ≤ mb by rw [hmb]; exact HV0.out.size)
    refine hK9.out _ _ HV8.out ?_
    clear hK9 K9 hOc hmb
    try simp only [Act.put, List.setIfInBounds_toArray, List.set_cons_zero, List.set_cons_succ, List.getElem_toArray, List.getElem_cons_zero, List.getElem_cons_succ]
    generalize hw : V0.alloc (.map #[] 0) = V8 at *
    clear hw
    refine HeadG.fork2 (i := 4) (j := 7) rfl rfl (by kernel_rfl) (by kernel_rfl) (by kernel_rfl) (fun K9 hK9 => ?_) (fun K9 hK9 => ?_)
    · go_simp
      go_at_call 29
      with_reducible refine (HON.out W0 H00.out _ HV8.out).mono ?_
      rintro e V9 ⟨⟨ob, oo, oc, rfl, hob, hfob⟩, hOc⟩
      have HV9 := Lib.hid (HV8.out.trans hOc)
      have HF9 := Lib.hid hob
      have HOBW := Lib.hid (show W0.heap.size ≤ ob from Nat.le_trans HV8.out.size hfob)
      have HF9x5 := Lib.hid (HF8.out.on hOc)
      refine hK9.out _ _ HV9.out ?_
      clear hK9 K9 hOc hob hfob
      try simp only [Act.put, List.setIfInBounds_toArray, List.set_cons_zero, List.set_cons_succ, List.getElem_toArray, List.getElem_cons_zero, List.getElem_cons_succ]
      refine HeadG.take (i := 6) (v := .agg #[.int .i64 S.f, .int .u64 (a : Int), .slice (some ⟨ob, oo, none⟩) 1 oc, .map (some mb)]) rfl (by kernel_rfl) (by kernel_rfl) (by kernel_rfl) (by kernel_rfl) (by kernel_rfl) (by kernel_rfl) (by kernel_rfl) (fun _ _ _ h => h) (Or.inl ⟨by rfl, ?y6x10⟩) HV9.out ?r6x10
      case y6x10 => (intro wq hwq; go_simp; try with_reducible rfl)
      try simp only [Act.put, List.setIfInBounds_toArray, List.set_cons_zero, List.set_cons_succ, List.getElem_toArray, List.getElem_cons_zero, List.getElem_cons_succ]
      refine HeadG.one (i := 7) rfl (by kernel_rfl) (by kernel_rfl) (fun K9 hK9 => ?_)
      go_simp
      have hOc : On V9 (V9.alloc (.cells #[.int .i64 0, .int .u64 0, .slice none 0 0, .map none] 126)) := (On.refl HV9.out.tab).alloc _
      have HV11 := Lib.hid (HV9.out.trans hOc)
      have HF11 : Hid (VB V9.heap.size (V9.alloc (.cells #[.int .i64 0, .int .u64 0, .slice none 0 0, .map none] 126)) [.int .i64 0, .int .u64 0, .slice none 0 0, .map none]) := Lib.hid (vb_new V9 _ _)
      have HF11x5 := Lib.hid (HF9x5.out.on hOc)
      have HF11x4 := Lib.hid (cell_on hOc HF9.out)
      obtain ⟨cb, hcb⟩ : ∃ m, m = V9.heap.size := ⟨_, rfl⟩
      rw [← hcb] at HF11
      rw [← hcb]
      have HCB := Lib.hid (show W0.heap.size ≤ cb by rw [hcb]; exact HV9.out.size)
      have HNE : Hid (ob ≠ cb) := Lib.hid (by have h9 := cell_size HF9.out; rw [hcb]; simp at h9; omega)
      refine hK9.out _ _ HV11.out ?_
      clear hK9 K9 hOc hcb
      try simp only [Act.put, List.setIfInBounds_toArray, List.set_cons_zero, List.set_cons_succ, List.getElem_toArray, List.getElem_cons_zero, List.getElem_cons_succ]
      generalize hw : V9.alloc (.cells #[.int .i64 0, .int .u64 0, .slice none 0 0, .map none] 126) = V11 at *
      clear hw
      have hcs := HF11.out
      obtain ⟨p0, p1, p2, p3⟩ : _ ∧ _ ∧ _ ∧ _ := ⟨hcs.2.1 0 _ rfl, hcs.2.1 1 _ rfl, hcs.2.1 2 _ rfl, hcs.2.1 3 _ rfl⟩
      have q0 := hcs.2.2 0
      have q1 := hcs.2.2 1
      have q2 := hcs.2.2 2
      have q3 := hcs.2.2 3
      refine HeadG.last (i := 8) rfl (by kernel_rfl) (by kernel_rfl) (by kernel_rfl) (fun K9 hK9 => ?_)
      go_simp
      refine hK9.out _ _ ?_
      clear hK9 K9
      try simp only [Act.put, List.setIfInBounds_toArray, List.set_cons_zero, List.set_cons_succ, List.getElem_toArray, List.getElem_cons_zero, List.getElem_cons_succ]
      have hv0 := HV11.out
      have hob9 := HF11x4.out
      have hmb9 := HF11x5.out
      obtain ⟨U, hUe⟩ : ∃ U, U = ((((V11.setCell ⟨cb, 0, none⟩ (.int .i64 S.f)).setCell ⟨cb, 1, none⟩ (.int .u64 (a : Int))).setCell ⟨cb, 2, none⟩ (.slice (some ⟨ob, oo, none⟩) 1 oc)).setCell ⟨cb, 3, none⟩ (.map (some mb))) := ⟨_, rfl⟩
      have HU := Lib.hid (cmp_fill HCB.out hv0 hob9 HNE.out hmb9 hcs (.int .i64 S.f) (.int .u64 (a : Int)) (.slice (some ⟨ob, oo, none⟩) 1 oc) (.map (some mb)))
      rw [← hUe] at HU
      rw [← hUe]
      clear hUe hcs p0 p1 p2 p3 q0 q1 q2 q3 hv0 hob9 hmb9
      obtain ⟨hOU, hobU, hmU, hcU⟩ := HU.out
      have p0 := hcU.2.1 0 _ rfl
      have p1 := hcU.2.1 1 _ rfl
      have p2 := hcU.2.1 2 _ rfl
      have p3 := hcU.2.1 3 _ rfl
      have hlk := hmU.look 2 (by omega)
      obtain ⟨s0, s1, s2, s3, s4, s5, s6, s7⟩ := HSY.out U hOU
      rw [HRR.out] at s1
      have hx0 := HX.out U hOU
      go_wp2_with fail
      refine wp_loop_rounds 2 ?_
      rw [rounds_succ]
      go_wp2_with (go_at_call 80; (with_reducible refine (HDV.out U hOU).mono ?_); rintro e w2 ⟨⟨B8, Q9, B7, B5, rfl, hD⟩, hO2⟩)
      have hOU2 := hOU.trans hO2
      have hx9 := HX.out w2 hOU2
      have hyl := HDL.out
      have hC : Calls Tryd.prog 135 #[.int .u64 (x : Int), .pointer (some ⟨B8, 0, none⟩), .pointer (some ⟨Q9, 0, none⟩), .pointer (some ⟨B7, 0, none⟩), .pointer (some ⟨B5, 0, none⟩)] w2 fun e w' => e = .returned (.int .u64 ((dvO S.f r 2 x : Nat) : Int)) ∧ On w2 w' := hD w2 x (On.refl hO2.tab) HX2.out
      clear hD hx0 s0 s1 s2 s3 s4 s5 s6 s7 p0 p1 p2 p3 hlk
      obtain ⟨y, hy⟩ : ∃ y, y = dvO S.f r 2 x := ⟨_, rfl⟩
      rw [← hy] at hC hyl
      have HY := Lib.hid hy
      clear hy
      refine wp_loop_rounds 2 ?_
      rw [rounds_succ]
      go_wp2_with (first
        | (go_at_call 135; (with_reducible refine hC.mono ?_); rintro e w3 ⟨rfl, hO3⟩; obtain ⟨v', w', hrun, hown', hOn⟩ := app_u64 (World.ownsRow_nil w3 w3.heap.size 42 1) (Nat.le_refl _) (y : Int) (by omega))
        | (at_builtin; refine wp_appendJ rfl (.tmp 51) (.tmp 55) _ _ rfl _ _ v' rfl rfl hrun ?_)
        | fail)
      rw [rounds_succ]
      have hO4 := (hO2.trans hO3).trans (hOn w3 (On.refl hO3.tab) (Nat.le_refl _))
      go_upto_region 14 with fail
      have HRD : Reads w' v' [y] := (own_nr (l := [y]) (by simpa [u64s] using hown') (by simp; omega) (by simp)).1
      have HRZ := Lib.hid HRD
      have HO4 := Lib.hid hO4
      have HOW := Lib.hid (hOU.trans hO4)
      have HSYz : Hid (∀ wq, On w' wq → _) := Lib.hid fun wq h => HSY.out wq (HOW.out.trans h)
      have HPz : Hid (∀ wq, On w' wq → wq.cell? ⟨cb, 3, none⟩ = some (.map (some mb))) := Lib.hid fun wq h => (hcU.on (HO4.out.trans h)).2.1 3 _ rfl
      obtain ⟨Vz, hVz⟩ : ∃ V, V = w'.drew := ⟨_, rfl⟩
      have hSz : On w' Vz := by rw [hVz]; exact (On.refl HO4.out.tab).drew
      refine region_head_tail (S := fun wx => On w' wx) 7 (by kernel_rfl) (by kernel_rfl) ?_
      rw [← hVz]
      clear hVz hrun hown' hOn hC hO2 hO3 hO4 hOU2 hx9
      refine HeadG.take (i := 0) (v := ?g2v0) rfl (by kernel_rfl) (by kernel_rfl) (by kernel_rfl) (by kernel_rfl) (by kernel_rfl) (by kernel_rfl) (by kernel_rfl) (fun _ _ _ h => h) (Or.inl ⟨by rfl, ?g2y0⟩) hSz ?g2r0
      case g2y0 => (intro wq hwq; go_simp; try with_reducible rfl)
      try simp only [Act.put, List.setIfInBounds_toArray, List.set_cons_zero, List.set_cons_succ, List.getElem_toArray, List.getElem_cons_zero, List.getElem_cons_succ]
      refine HeadG.take (i := 1) (v := .map (some mb)) rfl (by kernel_rfl) (by kernel_rfl) (by kernel_rfl) (by kernel_rfl) (by kernel_rfl) (by kernel_rfl) (by kernel_rfl) (fun _ _ _ h => h) (Or.inl ⟨by rfl, ?g2y1⟩) hSz ?g2r1
      case g2y1 => (intro wq hwq; have p3 := HPz.out wq hwq; go_simp; try with_reducible rfl)
      try simp only [Act.put, List.setIfInBounds_toArray, List.set_cons_zero, List.set_cons_succ, List.getElem_toArray, List.getElem_cons_zero, List.getElem_cons_succ]
      refine HeadG.take (i := 2) (v := ?g2v2) rfl (by kernel_rfl) (by kernel_rfl) (by kernel_rfl) (by kernel_rfl) (by kernel_rfl) (by kernel_rfl) (by kernel_rfl) (fun _ _ _ h => h) (Or.inl ⟨by rfl, ?g2y2⟩) hSz ?g2r2
      case g2y2 => (intro wq hwq; go_simp; try with_reducible rfl)
      try simp only [Act.put, List.setIfInBounds_toArray, List.set_cons_zero, List.set_cons_succ, List.getElem_toArray, List.getElem_cons_zero, List.getElem_cons_succ]
      refine HeadG.take (i := 3) (v := ?g2v3) rfl (by kernel_rfl) (by kernel_rfl) (by kernel_rfl) (by kernel_rfl) (by kernel_rfl) (by kernel_rfl) (by kernel_rfl) (fun _ _ _ h => h) (Or.inl ⟨by rfl, ?g2y3⟩) hSz ?g2r3
      case g2y3 => (intro wq hwq; go_simp; try with_reducible rfl)
      try simp only [Act.put, List.setIfInBounds_toArray, List.set_cons_zero, List.set_cons_succ, List.getElem_toArray, List.getElem_cons_zero, List.getElem_cons_succ]
      refine HeadG.take (i := 4) (v := .int .i64 S.f) rfl (by kernel_rfl) (by kernel_rfl) (by kernel_rfl) (by kernel_rfl) (by kernel_rfl) (by kernel_rfl) (by kernel_rfl) (fun _ _ _ h => h) (Or.inl ⟨by rfl, ?g2y4⟩) hSz ?g2r4
      case g2y4 => (intro wq hwq; obtain ⟨s0, s1, s2, s3, s4, s5, s6, s7⟩ := HSYz.out wq hwq; go_simp; try with_reducible rfl)
      try simp only [Act.put, List.setIfInBounds_toArray, List.set_cons_zero, List.set_cons_succ, List.getElem_toArray, List.getElem_cons_zero, List.getElem_cons_succ]
      refine HeadG.take (i := 5) (v := ?g2v5) rfl (by kernel_rfl) (by kernel_rfl) (by kernel_rfl) (by kernel_rfl) (by kernel_rfl) (by kernel_rfl) (by kernel_rfl) (fun _ _ _ h => h) (Or.inl ⟨by rfl, ?g2y5⟩) hSz ?g2r5
      case g2y5 => (intro wq hwq; go_simp; try with_reducible rfl)
      try simp only [Act.put, List.setIfInBounds_toArray, List.set_cons_zero, List.set_cons_succ, List.getElem_toArray, List.getElem_cons_zero, List.getElem_cons_succ]
      refine HeadG.one (i := 6) rfl (by kernel_rfl) (by kernel_rfl) (fun K9 hK9 => ?_)
      go_simp
      go_at_call 137
      (with_reducible refine (HIN.out y _ _ (HOW.out.trans hSz) (HRZ.out.on hSz)).mono ?_)
      rintro e w5 ⟨rfl, hg5, hO5⟩
      have hSw : On w' w5 := hSz.trans hO5
      refine hK9.out _ _ hSw ?_
      clear hK9 K9
      try simp only [Act.put, List.setIfInBounds_toArray, List.set_cons_zero, List.set_cons_succ, List.getElem_toArray, List.getElem_cons_zero, List.getElem_cons_succ]
      obtain ⟨g, hge⟩ : ∃ g, g = Vz.heap.size := ⟨_, rfl⟩
      have HGW := Lib.hid (show W0.heap.size ≤ g by rw [hge]; exact (HOW.out.trans hSz).size)
      rw [← hge] at hg5
      rw [← hge]
      clear hge
      obtain ⟨w6, hput, hm6, hOn6, hc6, hv6⟩ := M0.put2 (hmU.on (HO4.out.trans hSw)) 2 (by omega) g
      have HO6 := Lib.hid (hOn6 W0 (HOW.out.trans hSw) HMB.out)
      have HM6 := Lib.hid hm6
      have HG6 := Lib.hid (hc6 _ _ hg5)
      have HOB6 := Lib.hid (hc6 _ _ (cell_on (HO4.out.trans hSw) hobU))
      have HC6 := Lib.hid (hv6 _ _ (hcU.on (HO4.out.trans hSw)) (fun e => ne_map hmU hcU e.symm))
      refine HeadG.last (i := 7) rfl (by kernel_rfl) (by kernel_rfl) (by kernel_rfl) (fun K9 hK9 => ?_)
      go_simp
      refine hK9.out _ _ ?_
      clear hK9 K9
      try simp only [Act.put, List.setIfInBounds_toArray, List.set_cons_zero, List.set_cons_succ, List.getElem_toArray, List.getElem_cons_zero, List.getElem_cons_succ]
      clear hput hm6 hOn6 hc6 hv6 hg5 hO5 hSw hSz hOU hobU hmU hcU HU
      have HQ6 := Lib.hid (HB1.out.on HO6.out)
      have p0 := HC6.out.2.1 0 _ rfl
      have p1 := HC6.out.2.1 1 _ rfl
      have p2 := HC6.out.2.1 2 _ rfl
      have p3 := HC6.out.2.1 3 _ rfl
      have q0 := HQ6.out.2.1 0 _ rfl
      have q1 := HQ6.out.2.1 1 _ rfl
      have q2 := HQ6.out.2.1 2 _ rfl
      have q3 := HQ6.out.2.1 3 _ rfl
      have z0 := HQ6.out.2.2 0
      have z1 := HQ6.out.2.2 1
      have z2 := HQ6.out.2.2 2
      have z3 := HQ6.out.2.2 3
      go_wp2_with fail
      rw [rounds_succ]
      go_wp2_with fail
      obtain ⟨X, hXe⟩ : ∃ X, X = ((((w6.setCell ⟨Q + 1, 0, none⟩ (.int .i64 S.f)).setCell ⟨Q + 1, 1, none⟩ (.int .u64 (a : Int))).setCell ⟨Q + 1, 2, none⟩ (.slice (some ⟨ob, oo, none⟩) 1 oc)).setCell ⟨Q + 1, 3, none⟩ (.map (some mb))) := ⟨_, rfl⟩
      have HDN := Lib.hid (cmp_done (show w.heap.size ≤ Q + 1 by have := HQ.out; omega) HB1.out.1 (HO0.out.trans HO6.out) HOB6.out HOBW.out HG6.out HGW.out HMB.out HM6.out HQ6.out (.int .i64 S.f) (.int .u64 (a : Int)) (.slice (some ⟨ob, oo, none⟩) 1 oc) (.map (some mb)))
      rw [← hXe] at HDN
      rw [← hXe]
      clear hXe p0 p1 p2 p3 q0 q1 q2 q3 z0 z1 z2 z3
      have t0 := HDN.out.2.2.2.2.2.1 0 _ rfl
      have t1 := HDN.out.2.2.2.2.2.1 1 _ rfl
      have t2 := HDN.out.2.2.2.2.2.1 2 _ rfl
      have t3 := HDN.out.2.2.2.2.2.1 3 _ rfl
      refine bodyPost_ret (v := .agg #[.int .i64 S.f, .int .u64 (a : Int), .slice (some ⟨ob, oo, none⟩) 1 oc, .map (some mb)]) (by simp [results, Tryd.results81, go_sem, t0, t1, t2, t3]; try rfl) rfl ?_
      exact ⟨⟨ob, oo, oc, mb, g, rfl, HDN.out.2.1, HDN.out.2.2.2.1, by rw [← HY.out]; exact HDN.out.2.2.1⟩, HDN.out.1⟩
    · go_simp
      have hOc : On V8 (V8.alloc (.cells #[.int .i64 0, .int .u64 0, .slice none 0 0, .map none] 126)) := (On.refl HV8.out.tab).alloc _
      have HV12 := Lib.hid (HV8.out.trans hOc)
      have HF12 : Hid (VB V8.heap.size (V8.alloc (.cells #[.int .i64 0, .int .u64 0, .slice none 0 0, .map none] 126)) [.int .i64 0, .int .u64 0, .slice none 0 0, .map none]) := Lib.hid (vb_new V8 _ _)
      have HF12x5 := Lib.hid (HF8.out.on hOc)
      obtain ⟨cb, hcb⟩ : ∃ m, m = V8.heap.size := ⟨_, rfl⟩
      rw [← hcb] at HF12
      rw [← hcb]
      have HCB := Lib.hid (show W0.heap.size ≤ cb by rw [hcb]; exact HV8.out.size)
      refine hK9.out _ _ HV12.out ?_
      clear hK9 K9 hOc hcb
      try simp only [Act.put, List.setIfInBounds_toArray, List.set_cons_zero, List.set_cons_succ, List.getElem_toArray, List.getElem_cons_zero, List.getElem_cons_succ]
      generalize hw : V8.alloc (.cells #[.int .i64 0, .int .u64 0, .slice none 0 0, .map none] 126) = V12 at *
      clear hw
      refine HeadG.one (i := 4) rfl (by kernel_rfl) (by kernel_rfl) (fun K9 hK9 => ?_)
      go_simp
      go_at_call 29
      with_reducible refine (HON.out W0 H00.out _ HV12.out).mono ?_
      rintro e V13 ⟨⟨ob, oo, oc, rfl, hob, hfob⟩, hOc⟩
      have HV13 := Lib.hid (HV12.out.trans hOc)
      have HF13 := Lib.hid hob
      have HOBW := Lib.hid (show W0.heap.size ≤ ob from Nat.le_trans HV12.out.size hfob)
      have HNE : Hid (ob ≠ cb) := Lib.hid (by have h9 := HF12.out.1; omega)
      have HF13x5 := Lib.hid (HF12x5.out.on hOc)
      have HF13x7 := Lib.hid (HF12.out.on hOc)
      refine hK9.out _ _ HV13.out ?_
      clear hK9 K9 hOc hob hfob
      try simp only [Act.put, List.setIfInBounds_toArray, List.set_cons_zero, List.set_cons_succ, List.getElem_toArray, List.getElem_cons_zero, List.getElem_cons_succ]
      refine HeadG.take (i := 6) (v := .agg #[.int .i64 S.f, .int .u64 (a : Int), .slice (some ⟨ob, oo, none⟩) 1 oc, .map (some mb)]) rfl (by kernel_rfl) (by kernel_rfl) (by kernel_rfl) (by kernel_rfl) (by kernel_rfl) (by kernel_rfl) (by kernel_rfl) (fun _ _ _ h => h) (Or.inl ⟨by rfl, ?y6x14⟩) HV13.out ?r6x14
      case y6x14 => (intro wq hwq; go_simp; try with_reducible rfl)
      try simp only [Act.put, List.setIfInBounds_toArray, List.set_cons_zero, List.set_cons_succ, List.getElem_toArray, List.getElem_cons_zero, List.getElem_cons_succ]
      have hcs := HF13x7.out
      obtain ⟨p0, p1, p2, p3⟩ : _ ∧ _ ∧ _ ∧ _ := ⟨hcs.2.1 0 _ rfl, hcs.2.1 1 _ rfl, hcs.2.1 2 _ rfl, hcs.2.1 3 _ rfl⟩
      have q0 := hcs.2.2 0
      have q1 := hcs.2.2 1
      have q2 := hcs.2.2 2
      have q3 := hcs.2.2 3
      refine HeadG.last (i := 8) rfl (by kernel_rfl) (by kernel_rfl) (by kernel_rfl) (fun K9 hK9 => ?_)
      go_simp
      refine hK9.out _ _ ?_
      clear hK9 K9
      try simp only [Act.put, List.setIfInBounds_toArray, List.set_cons_zero, List.set_cons_succ, List.getElem_toArray, List.getElem_cons_zero, List.getElem_cons_succ]
      have hv0 := HV13.out
      have hob9 := HF13.out
      have hmb9 := HF13x5.out
      obtain ⟨U, hUe⟩ : ∃ U, U = ((((V13.setCell ⟨cb, 0, none⟩ (.int .i64 S.f)).setCell ⟨cb, 1, none⟩ (.int .u64 (a : Int))).setCell ⟨cb, 2, none⟩ (.slice (some ⟨ob, oo, none⟩) 1 oc)).setCell ⟨cb, 3, none⟩ (.map (some mb))) := ⟨_, rfl⟩
      have HU := Lib.hid (cmp_fill HCB.out hv0 hob9 HNE.out hmb9 hcs (.int .i64 S.f) (.int .u64 (a : Int)) (.slice (some ⟨ob, oo, none⟩) 1 oc) (.map (some mb)))
      rw [← hUe] at HU
      rw [← hUe]
      clear hUe hcs p0 p1 p2 p3 q0 q1 q2 q3 hv0 hob9 hmb9
      obtain ⟨hOU, hobU, hmU, hcU⟩ := HU.out
      have p0 := hcU.2.1 0 _ rfl
      have p1 := hcU.2.1 1 _ rfl
      have p2 := hcU.2.1 2 _ rfl
      have p3 := hcU.2.1 3 _ rfl
      have hlk := hmU.look 2 (by omega)
      obtain ⟨s0, s1, s2, s3, s4, s5, s6, s7⟩ := HSY.out U hOU
      rw [HRR.out] at s1
      have hx0 := HX.out U hOU
      go_wp2_with fail
      refine wp_loop_rounds 2 ?_
      rw [rounds_succ]
      go_wp2_with (go_at_call 80; (with_reducible refine (HDV.out U hOU).mono ?_); rintro e w2 ⟨⟨B8, Q9, B7, B5, rfl, hD⟩, hO2⟩)
      have hOU2 := hOU.trans hO2
      have hx9 := HX.out w2 hOU2
      have hyl := HDL.out
      have hC : Calls Tryd.prog 135 #[.int .u64 (x : Int), .pointer (some ⟨B8, 0, none⟩), .pointer (some ⟨Q9, 0, none⟩), .pointer (some ⟨B7, 0, none⟩), .pointer (some ⟨B5, 0, none⟩)] w2 fun e w' => e = .returned (.int .u64 ((dvO S.f r 2 x : Nat) : Int)) ∧ On w2 w' := hD w2 x (On.refl hO2.tab) HX2.out
      clear hD hx0 s0 s1 s2 s3 s4 s5 s6 s7 p0 p1 p2 p3 hlk
      obtain ⟨y, hy⟩ : ∃ y, y = dvO S.f r 2 x := ⟨_, rfl⟩
      rw [← hy] at hC hyl
      have HY := Lib.hid hy
      clear hy
      refine wp_loop_rounds 2 ?_
      rw [rounds_succ]
      go_wp2_with (first
        | (go_at_call 135; (with_reducible refine hC.mono ?_); rintro e w3 ⟨rfl, hO3⟩; obtain ⟨v', w', hrun, hown', hOn⟩ := app_u64 (World.ownsRow_nil w3 w3.heap.size 42 1) (Nat.le_refl _) (y : Int) (by omega))
        | (at_builtin; refine wp_appendJ rfl (.tmp 51) (.tmp 55) _ _ rfl _ _ v' rfl rfl hrun ?_)
        | fail)
      rw [rounds_succ]
      have hO4 := (hO2.trans hO3).trans (hOn w3 (On.refl hO3.tab) (Nat.le_refl _))
      go_upto_region 14 with fail
      have HRD : Reads w' v' [y] := (own_nr (l := [y]) (by simpa [u64s] using hown') (by simp; omega) (by simp)).1
      have HRZ := Lib.hid HRD
      have HO4 := Lib.hid hO4
      have HOW := Lib.hid (hOU.trans hO4)
      have HSYz : Hid (∀ wq, On w' wq → _) := Lib.hid fun wq h => HSY.out wq (HOW.out.trans h)
      have HPz : Hid (∀ wq, On w' wq → wq.cell? ⟨cb, 3, none⟩ = some (.map (some mb))) := Lib.hid fun wq h => (hcU.on (HO4.out.trans h)).2.1 3 _ rfl
      obtain ⟨Vz, hVz⟩ : ∃ V, V = w'.drew := ⟨_, rfl⟩
      have hSz : On w' Vz := by rw [hVz]; exact (On.refl HO4.out.tab).drew
      refine region_head_tail (S := fun wx => On w' wx) 7 (by kernel_rfl) (by kernel_rfl) ?_
      rw [← hVz]
      clear hVz hrun hown' hOn hC hO2 hO3 hO4 hOU2 hx9
      refine HeadG.take (i := 0) (v := ?g3v0) rfl (by kernel_rfl) (by kernel_rfl) (by kernel_rfl) (by kernel_rfl) (by kernel_rfl) (by kernel_rfl) (by kernel_rfl) (fun _ _ _ h => h) (Or.inl ⟨by rfl, ?g3y0⟩) hSz ?g3r0
      case g3y0 => (intro wq hwq; go_simp; try with_reducible rfl)
      try simp only [Act.put, List.setIfInBounds_toArray, List.set_cons_zero, List.set_cons_succ, List.getElem_toArray, List.getElem_cons_zero, List.getElem_cons_succ]
      refine HeadG.take (i := 1) (v := .map (some mb)) rfl (by kernel_rfl) (by kernel_rfl) (by kernel_rfl) (by kernel_rfl) (by kernel_rfl) (by kernel_rfl) (by kernel_rfl) (fun _ _ _ h => h) (Or.inl ⟨by rfl, ?g3y1⟩) hSz ?g3r1
      case g3y1 => (intro wq hwq; have p3 := HPz.out wq hwq; go_simp; try with_reducible rfl)
      try simp only [Act.put, List.setIfInBounds_toArray, List.set_cons_zero, List.set_cons_succ, List.getElem_toArray, List.getElem_cons_zero, List.getElem_cons_succ]
      refine HeadG.take (i := 2) (v := ?g3v2) rfl (by kernel_rfl) (by kernel_rfl) (by kernel_rfl) (by kernel_rfl) (by kernel_rfl) (by kernel_rfl) (by kernel_rfl) (fun _ _ _ h => h) (Or.inl ⟨by rfl, ?g3y2⟩) hSz ?g3r2
      case g3y2 => (intro wq hwq; go_simp; try with_reducible rfl)
      try simp only [Act.put, List.setIfInBounds_toArray, List.set_cons_zero, List.set_cons_succ, List.getElem_toArray, List.getElem_cons_zero, List.getElem_cons_succ]
      refine HeadG.take (i := 3) (v := ?g3v3) rfl (by kernel_rfl) (by kernel_rfl) (by kernel_rfl) (by kernel_rfl) (by kernel_rfl) (by kernel_rfl) (by kernel_rfl) (fun _ _ _ h => h) (Or.inl ⟨by rfl, ?g3y3⟩) hSz ?g3r3
      case g3y3 => (intro wq hwq; go_simp; try with_reducible rfl)
      try simp only [Act.put, List.setIfInBounds_toArray, List.set_cons_zero, List.set_cons_succ, List.getElem_toArray, List.getElem_cons_zero, List.getElem_cons_succ]
      refine HeadG.take (i := 4) (v := .int .i64 S.f) rfl (by kernel_rfl) (by kernel_rfl) (by kernel_rfl) (by kernel_rfl) (by kernel_rfl) (by kernel_rfl) (by kernel_rfl) (fun _ _ _ h => h) (Or.inl ⟨by rfl, ?g3y4⟩) hSz ?g3r4
      case g3y4 => (intro wq hwq; obtain ⟨s0, s1, s2, s3, s4, s5, s6, s7⟩ := HSYz.out wq hwq; go_simp; try with_reducible rfl)
      try simp only [Act.put, List.setIfInBounds_toArray, List.set_cons_zero, List.set_cons_succ, List.getElem_toArray, List.getElem_cons_zero, List.getElem_cons_succ]
      refine HeadG.take (i := 5) (v := ?g3v5) rfl (by kernel_rfl) (by kernel_rfl) (by kernel_rfl) (by kernel_rfl) (by kernel_rfl) (by kernel_rfl) (by kernel_rfl) (fun _ _ _ h => h) (Or.inl ⟨by rfl, ?g3y5⟩) hSz ?g3r5
      case g3y5 => (intro wq hwq; go_simp; try with_reducible rfl)
      try simp only [Act.put, List.setIfInBounds_toArray, List.set_cons_zero, List.set_cons_succ, List.getElem_toArray, List.getElem_cons_zero, List.getElem_cons_succ]
      refine HeadG.one (i := 6) rfl (by kernel_rfl) (by kernel_rfl) (fun K9 hK9 => ?_)
      go_simp
      go_at_call 137
      (with_reducible refine (HIN.out y _ _ (HOW.out.trans hSz) (HRZ.out.on hSz)).mono ?_)
      rintro e w5 ⟨rfl, hg5, hO5⟩
      have hSw : On w' w5 := hSz.trans hO5
      refine hK9.out _ _ hSw ?_
      clear hK9 K9
      try simp only [Act.put, List.setIfInBounds_toArray, List.set_cons_zero, List.set_cons_succ, List.getElem_toArray, List.getElem_cons_zero, List.getElem_cons_succ]
      obtain ⟨g, hge⟩ : ∃ g, g = Vz.heap.size := ⟨_, rfl⟩
      have HGW := Lib.hid (show W0.heap.size ≤ g by rw [hge]; exact (HOW.out.trans hSz).size)
      rw [← hge] at hg5
      rw [← hge]
      clear hge
      obtain ⟨w6, hput, hm6, hOn6, hc6, hv6⟩ := M0.put2 (hmU.on (HO4.out.trans hSw)) 2 (by omega) g
      have HO6 := Lib.hid (hOn6 W0 (HOW.out.trans hSw) HMB.out)
      have HM6 := Lib.hid hm6
      have HG6 := Lib.hid (hc6 _ _ hg5)
      have HOB6 := Lib.hid (hc6 _ _ (cell_on (HO4.out.trans hSw) hobU))
      have HC6 := Lib.hid (hv6 _ _ (hcU.on (HO4.out.trans hSw)) (fun e => ne_map hmU hcU e.symm))
      refine HeadG.last (i := 7) rfl (by kernel_rfl) (by kernel_rfl) (by kernel_rfl) (fun K9 hK9 => ?_)
      go_simp
      refine hK9.out _ _ ?_
      clear hK9 K9
      try simp only [Act.put, List.setIfInBounds_toArray, List.set_cons_zero, List.set_cons_succ, List.getElem_toArray, List.getElem_cons_zero, List.getElem_cons_succ]
      clear hput hm6 hOn6 hc6 hv6 hg5 hO5 hSw hSz hOU hobU hmU hcU HU
      have HQ6 := Lib.hid (HB1.out.on HO6.out)
      have p0 := HC6.out.2.1 0 _ rfl
      have p1 := HC6.out.2.1 1 _ rfl
      have p2 := HC6.out.2.1 2 _ rfl
      have p3 := HC6.out.2.1 3 _ rfl
      have q0 := HQ6.out.2.1 0 _ rfl
      have q1 := HQ6.out.2.1 1 _ rfl
      have q2 := HQ6.out.2.1 2 _ rfl
      have q3 := HQ6.out.2.1 3 _ rfl
      have z0 := HQ6.out.2.2 0
      have z1 := HQ6.out.2.2 1
      have z2 := HQ6.out.2.2 2
      have z3 := HQ6.out.2.2 3
      go_wp2_with fail
      rw [rounds_succ]
      go_wp2_with fail
      obtain ⟨X, hXe⟩ : ∃ X, X = ((((w6.setCell ⟨Q + 1, 0, none⟩ (.int .i64 S.f)).setCell ⟨Q + 1, 1, none⟩ (.int .u64 (a : Int))).setCell ⟨Q + 1, 2, none⟩ (.slice (some ⟨ob, oo, none⟩) 1 oc)).setCell ⟨Q + 1, 3, none⟩ (.map (some mb))) := ⟨_, rfl⟩
      have HDN := Lib.hid (cmp_done (show w.heap.size ≤ Q + 1 by have := HQ.out; omega) HB1.out.1 (HO0.out.trans HO6.out) HOB6.out HOBW.out HG6.out HGW.out HMB.out HM6.out HQ6.out (.int .i64 S.f) (.int .u64 (a : Int)) (.slice (some ⟨ob, oo, none⟩) 1 oc) (.map (some mb)))
      rw [← hXe] at HDN
      rw [← hXe]
      clear hXe p0 p1 p2 p3 q0 q1 q2 q3 z0 z1 z2 z3
      have t0 := HDN.out.2.2.2.2.2.1 0 _ rfl
      have t1 := HDN.out.2.2.2.2.2.1 1 _ rfl
      have t2 := HDN.out.2.2.2.2.2.1 2 _ rfl
      have t3 := HDN.out.2.2.2.2.2.1 3 _ rfl
      refine bodyPost_ret (v := .agg #[.int .i64 S.f, .int .u64 (a : Int), .slice (some ⟨ob, oo, none⟩) 1 oc, .map (some mb)]) (by simp [results, Tryd.results81, go_sem, t0, t1, t2, t3]; try rfl) rfl ?_
      exact ⟨⟨ob, oo, oc, mb, g, rfl, HDN.out.2.1, HDN.out.2.2.2.1, by rw [← HY.out]; exact HDN.out.2.2.1⟩, HDN.out.1⟩
  · go_simp
    have hOc : On V0 (V0.alloc (.cells #[.int .i64 0, .int .u64 0, .slice none 0 0, .map none] 126)) := (On.refl HV0.out.tab).alloc _
    have HV15 := Lib.hid (HV0.out.trans hOc)
    have HF15 : Hid (VB V0.heap.size (V0.alloc (.cells #[.int .i64 0, .int .u64 0, .slice none 0 0, .map none] 126)) [.int .i64 0, .int .u64 0, .slice none 0 0, .map none]) := Lib.hid (vb_new V0 _ _)
    obtain ⟨cb, hcb⟩ : ∃ m, m = V0.heap.size := ⟨_, rfl⟩
    rw [← hcb] at HF15
    rw [← hcb]
    have HCB := Lib.hid (show W0.heap.size ≤ cb by rw [hcb]; exact HV0.out.size)
    refine hK9.out _ _ HV15.out ?_
    clear hK9 K9 hOc hcb
    try simp only [Act.put, List.setIfInBounds_toArray, List.set_cons_zero, List.set_cons_succ, List.getElem_toArray, List.getElem_cons_zero, List.getElem_cons_succ]
    generalize hw : V0.alloc (.cells #[.int .i64 0, .int .u64 0, .slice none 0 0, .map none] 126) = V15 at *
    clear hw
    refine HeadG.fork2 (i := 4) (j := 5) rfl rfl (by kernel_rfl) (by kernel_rfl) (by kernel_rfl) (fun K9 hK9 => ?_) (fun K9 hK9 => ?_)
    · go_simp
      go_at_call 29
      with_reducible refine (HON.out W0 H00.out _ HV15.out).mono ?_
      rintro e V16 ⟨⟨ob, oo, oc, rfl, hob, hfob⟩, hOc⟩
      have HV16 := Lib.hid (HV15.out.trans hOc)
      have HF16 := Lib.hid hob
      have HOBW := Lib.hid (show W0.heap.size ≤ ob from Nat.le_trans HV15.out.size hfob)
      have HNE : Hid (ob ≠ cb) := Lib.hid (by have h9 := HF15.out.1; omega)
      have HF16x7 := Lib.hid (HF15.out.on hOc)
      refine hK9.out _ _ HV16.out ?_
      clear hK9 K9 hOc hob hfob
      try simp only [Act.put, List.setIfInBounds_toArray, List.set_cons_zero, List.set_cons_succ, List.getElem_toArray, List.getElem_cons_zero, List.getElem_cons_succ]
      refine HeadG.one (i := 5) rfl (by kernel_rfl) (by kernel_rfl) (fun K9 hK9 => ?_)
      go_simp
      have hOc : On V16 (V16.alloc (.map #[] 0)) := (On.refl HV16.out.tab).alloc _
      have HV17 := Lib.hid (HV16.out.trans hOc)
      have HF17 : Hid (M0 (V16.alloc (.map #[] 0)) V16.heap.size) := Lib.hid (World.ownsMap_made V16 _ _ _)
      have HF17x7 := Lib.hid (HF16x7.out.on hOc)
      have HF17x4 := Lib.hid (cell_on hOc HF16.out)
      obtain ⟨mb, hmb⟩ : ∃ m, m = V16.heap.size := ⟨_, rfl⟩
      rw [← hmb] at HF17
      rw [← hmb]
      have HMB := Lib.hid (show W0.heap.size ≤ mb by rw [hmb]; exact HV16.out.size)
      refine hK9.out _ _ HV17.out ?_
      clear hK9 K9 hOc hmb
      try simp only [Act.put, List.setIfInBounds_toArray, List.set_cons_zero, List.set_cons_succ, List.getElem_toArray, List.getElem_cons_zero, List.getElem_cons_succ]
      generalize hw : V16.alloc (.map #[] 0) = V17 at *
      clear hw
      refine HeadG.take (i := 6) (v := .agg #[.int .i64 S.f, .int .u64 (a : Int), .slice (some ⟨ob, oo, none⟩) 1 oc, .map (some mb)]) rfl (by kernel_rfl) (by kernel_rfl) (by kernel_rfl) (by kernel_rfl) (by kernel_rfl) (by kernel_rfl) (by kernel_rfl) (fun _ _ _ h => h) (Or.inl ⟨by rfl, ?y6x18⟩) HV17.out ?r6x18
      case y6x18 => (intro wq hwq; go_simp; try with_reducible rfl)
      try simp only [Act.put, List.setIfInBounds_toArray, List.set_cons_zero, List.set_cons_succ, List.getElem_toArray, List.getElem_cons_zero, List.getElem_cons_succ]
      have hcs := HF17x7.out
      obtain ⟨p0, p1, p2, p3⟩ : _ ∧ _ ∧ _ ∧ _ := ⟨hcs.2.1 0 _ rfl, hcs.2.1 1 _ rfl, hcs.2.1 2 _ rfl, hcs.2.1 3 _ rfl⟩
      have q0 := hcs.2.2 0
      have q1 := hcs.2.2 1
      have q2 := hcs.2.2 2
      have q3 := hcs.2.2 3
      refine HeadG.last (i := 8) rfl (by kernel_rfl) (by kernel_rfl) (by kernel_rfl) (fun K9 hK9 => ?_)
      go_simp
      refine hK9.out _ _ ?_
      clear hK9 K9
      try simp only [Act.put, List.setIfInBounds_toArray, List.set_cons_zero, List.set_cons_succ, List.getElem_toArray, List.getElem_cons_zero, List.getElem_cons_succ]
      have hv0 := HV17.out
      have hob9 := HF17x4.out
      have hmb9 := HF17.out
      obtain ⟨U, hUe⟩ : ∃ U, U = ((((V17.setCell ⟨cb, 0, none⟩ (.int .i64 S.f)).setCell ⟨cb, 1, none⟩ (.int .u64 (a : Int))).setCell ⟨cb, 2, none⟩ (.slice (some ⟨ob, oo, none⟩) 1 oc)).setCell ⟨cb, 3, none⟩ (.map (some mb))) := ⟨_, rfl⟩
      have HU := Lib.hid (cmp_fill HCB.out hv0 hob9 HNE.out hmb9 hcs (.int .i64 S.f) (.int .u64 (a : Int)) (.slice (some ⟨ob, oo, none⟩) 1 oc) (.map (some mb)))
      rw [← hUe] at HU
      rw [← hUe]
      clear hUe hcs p0 p1 p2 p3 q0 q1 q2 q3 hv0 hob9 hmb9
      obtain ⟨hOU, hobU, hmU, hcU⟩ := HU.out
      have p0 := hcU.2.1 0 _ rfl
      have p1 := hcU.2.1 1 _ rfl
      have p2 := hcU.2.1 2 _ rfl
      have p3 := hcU.2.1 3 _ rfl
      have hlk := hmU.look 2 (by omega)
      obtain ⟨s0, s1, s2, s3, s4, s5, s6, s7⟩ := HSY.out U hOU
      rw [HRR.out] at s1
      have hx0 := HX.out U hOU
      go_wp2_with fail
      refine wp_loop_rounds 2 ?_
      rw [rounds_succ]
      go_wp2_with (go_at_call 80; (with_reducible refine (HDV.out U hOU).mono ?_); rintro e w2 ⟨⟨B8, Q9, B7, B5, rfl, hD⟩, hO2⟩)
      have hOU2 := hOU.trans hO2
      have hx9 := HX.out w2 hOU2
      have hyl := HDL.out
      have hC : Calls Tryd.prog 135 #[.int .u64 (x : Int), .pointer (some ⟨B8, 0, none⟩), .pointer (some ⟨Q9, 0, none⟩), .pointer (some ⟨B7, 0, none⟩), .pointer (some ⟨B5, 0, none⟩)] w2 fun e w' => e = .returned (.int .u64 ((dvO S.f r 2 x : Nat) : Int)) ∧ On w2 w' := hD w2 x (On.refl hO2.tab) HX2.out
      clear hD hx0 s0 s1 s2 s3 s4 s5 s6 s7 p0 p1 p2 p3 hlk
      obtain ⟨y, hy⟩ : ∃ y, y = dvO S.f r 2 x := ⟨_, rfl⟩
      rw [← hy] at hC hyl
      have HY := Lib.hid hy
      clear hy
      refine wp_loop_rounds 2 ?_
      rw [rounds_succ]
      go_wp2_with (first
        | (go_at_call 135; (with_reducible refine hC.mono ?_); rintro e w3 ⟨rfl, hO3⟩; obtain ⟨v', w', hrun, hown', hOn⟩ := app_u64 (World.ownsRow_nil w3 w3.heap.size 42 1) (Nat.le_refl _) (y : Int) (by omega))
        | (at_builtin; refine wp_appendJ rfl (.tmp 51) (.tmp 55) _ _ rfl _ _ v' rfl rfl hrun ?_)
        | fail)
      rw [rounds_succ]
      have hO4 := (hO2.trans hO3).trans (hOn w3 (On.refl hO3.tab) (Nat.le_refl _))
      go_upto_region 14 with fail
      have HRD : Reads w' v' [y] := (own_nr (l := [y]) (by simpa [u64s] using hown') (by simp; omega) (by simp)).1
      have HRZ := Lib.hid HRD
      have HO4 := Lib.hid hO4
      have HOW := Lib.hid (hOU.trans hO4)
      have HSYz : Hid (∀ wq, On w' wq → _) := Lib.hid fun wq h => HSY.out wq (HOW.out.trans h)
      have HPz : Hid (∀ wq, On w' wq → wq.cell? ⟨cb, 3, none⟩ = some (.map (some mb))) := Lib.hid fun wq h => (hcU.on (HO4.out.trans h)).2.1 3 _ rfl
      obtain ⟨Vz, hVz⟩ : ∃ V, V = w'.drew := ⟨_, rfl⟩
      have hSz : On w' Vz := by rw [hVz]; exact (On.refl HO4.out.tab).drew
      refine region_head_tail (S := fun wx => On w' wx) 7 (by kernel_rfl) (by kernel_rfl) ?_
      rw [← hVz]
      clear hVz hrun hown' hOn hC hO2 hO3 hO4 hOU2 hx9
      refine HeadG.take (i := 0) (v := ?g4v0) rfl (by kernel_rfl) (by kernel_rfl) (by kernel_rfl) (by kernel_rfl) (by kernel_rfl) (by kernel_rfl) (by kernel_rfl) (fun _ _ _ h => h) (Or.inl ⟨by rfl, ?g4y0⟩) hSz ?g4r0
      case g4y0 => (intro wq hwq; go_simp; try with_reducible rfl)
      try simp only [Act.put, List.setIfInBounds_toArray, List.set_cons_zero, List.set_cons_succ, List.getElem_toArray, List.getElem_cons_zero, List.getElem_cons_succ]
      refine HeadG.take (i := 1) (v := .map (some mb)) rfl (by kernel_rfl) (by kernel_rfl) (by kernel_rfl) (by kernel_rfl) (by kernel_rfl) (by kernel_rfl) (by kernel_rfl) (fun _ _ _ h => h) (Or.inl ⟨by rfl, ?g4y1⟩) hSz ?g4r1
      case g4y1 => (intro wq hwq; have p3 := HPz.out wq hwq; go_simp; try with_reducible rfl)
      try simp only [Act.put, List.setIfInBounds_toArray, List.set_cons_zero, List.set_cons_succ, List.getElem_toArray, List.getElem_cons_zero, List.getElem_cons_succ]
      refine HeadG.take (i := 2) (v := ?g4v2) rfl (by kernel_rfl) (by kernel_rfl) (by kernel_rfl) (by kernel_rfl) (by kernel_rfl) (by kernel_rfl) (by kernel_rfl) (fun _ _ _ h => h) (Or.inl ⟨by rfl, ?g4y2⟩) hSz ?g4r2
      case g4y2 => (intro wq hwq; go_simp; try with_reducible rfl)
      try simp only [Act.put, List.setIfInBounds_toArray, List.set_cons_zero, List.set_cons_succ, List.getElem_toArray, List.getElem_cons_zero, List.getElem_cons_succ]
      refine HeadG.take (i := 3) (v := ?g4v3) rfl (by kernel_rfl) (by kernel_rfl) (by kernel_rfl) (by kernel_rfl) (by kernel_rfl) (by kernel_rfl) (by kernel_rfl) (fun _ _ _ h => h) (Or.inl ⟨by rfl, ?g4y3⟩) hSz ?g4r3
      case g4y3 => (intro wq hwq; go_simp; try with_reducible rfl)
      try simp only [Act.put, List.setIfInBounds_toArray, List.set_cons_zero, List.set_cons_succ, List.getElem_toArray, List.getElem_cons_zero, List.getElem_cons_succ]
      refine HeadG.take (i := 4) (v := .int .i64 S.f) rfl (by kernel_rfl) (by kernel_rfl) (by kernel_rfl) (by kernel_rfl) (by kernel_rfl) (by kernel_rfl) (by kernel_rfl) (fun _ _ _ h => h) (Or.inl ⟨by rfl, ?g4y4⟩) hSz ?g4r4
      case g4y4 => (intro wq hwq; obtain ⟨s0, s1, s2, s3, s4, s5, s6, s7⟩ := HSYz.out wq hwq; go_simp; try with_reducible rfl)
      try simp only [Act.put, List.setIfInBounds_toArray, List.set_cons_zero, List.set_cons_succ, List.getElem_toArray, List.getElem_cons_zero, List.getElem_cons_succ]
      refine HeadG.take (i := 5) (v := ?g4v5) rfl (by kernel_rfl) (by kernel_rfl) (by kernel_rfl) (by kernel_rfl) (by kernel_rfl) (by kernel_rfl) (by kernel_rfl) (fun _ _ _ h => h) (Or.inl ⟨by rfl, ?g4y5⟩) hSz ?g4r5
      case g4y5 => (intro wq hwq; go_simp; try with_reducible rfl)
      try simp only [Act.put, List.setIfInBounds_toArray, List.set_cons_zero, List.set_cons_succ, List.getElem_toArray, List.getElem_cons_zero, List.getElem_cons_succ]
      refine HeadG.one (i := 6) rfl (by kernel_rfl) (by kernel_rfl) (fun K9 hK9 => ?_)
      go_simp
      go_at_call 137
      (with_reducible refine (HIN.out y _ _ (HOW.out.trans hSz) (HRZ.out.on hSz)).mono ?_)
      rintro e w5 ⟨rfl, hg5, hO5⟩
      have hSw : On w' w5 := hSz.trans hO5
      refine hK9.out _ _ hSw ?_
      clear hK9 K9
      try simp only [Act.put, List.setIfInBounds_toArray, List.set_cons_zero, List.set_cons_succ, List.getElem_toArray, List.getElem_cons_zero, List.getElem_cons_succ]
      obtain ⟨g, hge⟩ : ∃ g, g = Vz.heap.size := ⟨_, rfl⟩
      have HGW := Lib.hid (show W0.heap.size ≤ g by rw [hge]; exact (HOW.out.trans hSz).size)
      rw [← hge] at hg5
      rw [← hge]
      clear hge
      obtain ⟨w6, hput, hm6, hOn6, hc6, hv6⟩ := M0.put2 (hmU.on (HO4.out.trans hSw)) 2 (by omega) g
      have HO6 := Lib.hid (hOn6 W0 (HOW.out.trans hSw) HMB.out)
      have HM6 := Lib.hid hm6
      have HG6 := Lib.hid (hc6 _ _ hg5)
      have HOB6 := Lib.hid (hc6 _ _ (cell_on (HO4.out.trans hSw) hobU))
      have HC6 := Lib.hid (hv6 _ _ (hcU.on (HO4.out.trans hSw)) (fun e => ne_map hmU hcU e.symm))
      refine HeadG.last (i := 7) rfl (by kernel_rfl) (by kernel_rfl) (by kernel_rfl) (fun K9 hK9 => ?_)
      go_simp
      refine hK9.out _ _ ?_
      clear hK9 K9
      try simp only [Act.put, List.setIfInBounds_toArray, List.set_cons_zero, List.set_cons_succ, List.getElem_toArray, List.getElem_cons_zero, List.getElem_cons_succ]
      clear hput hm6 hOn6 hc6 hv6 hg5 hO5 hSw hSz hOU hobU hmU hcU HU
      have HQ6 := Lib.hid (HB1.out.on HO6.out)
      have p0 := HC6.out.2.1 0 _ rfl
      have p1 := HC6.out.2.1 1 _ rfl
      have p2 := HC6.out.2.1 2 _ rfl
      have p3 := HC6.out.2.1 3 _ rfl
      have q0 := HQ6.out.2.1 0 _ rfl
      have q1 := HQ6.out.2.1 1 _ rfl
      have q2 := HQ6.out.2.1 2 _ rfl
      have q3 := HQ6.out.2.1 3 _ rfl
      have z0 := HQ6.out.2.2 0
      have z1 := HQ6.out.2.2 1
      have z2 := HQ6.out.2.2 2
      have z3 := HQ6.out.2.2 3
      go_wp2_with fail
      rw [rounds_succ]
      go_wp2_with fail
      obtain ⟨X, hXe⟩ : ∃ X, X = ((((w6.setCell ⟨Q + 1, 0, none⟩ (.int .i64 S.f)).setCell ⟨Q + 1, 1, none⟩ (.int .u64 (a : Int))).setCell ⟨Q + 1, 2, none⟩ (.slice (some ⟨ob, oo, none⟩) 1 oc)).setCell ⟨Q + 1, 3, none⟩ (.map (some mb))) := ⟨_, rfl⟩
      have HDN := Lib.hid (cmp_done (show w.heap.size ≤ Q + 1 by have := HQ.out; omega) HB1.out.1 (HO0.out.trans HO6.out) HOB6.out HOBW.out HG6.out HGW.out HMB.out HM6.out HQ6.out (.int .i64 S.f) (.int .u64 (a : Int)) (.slice (some ⟨ob, oo, none⟩) 1 oc) (.map (some mb)))
      rw [← hXe] at HDN
      rw [← hXe]
      clear hXe p0 p1 p2 p3 q0 q1 q2 q3 z0 z1 z2 z3
      have t0 := HDN.out.2.2.2.2.2.1 0 _ rfl
      have t1 := HDN.out.2.2.2.2.2.1 1 _ rfl
      have t2 := HDN.out.2.2.2.2.2.1 2 _ rfl
      have t3 := HDN.out.2.2.2.2.2.1 3 _ rfl
      refine bodyPost_ret (v := .agg #[.int .i64 S.f, .int .u64 (a : Int), .slice (some ⟨ob, oo, none⟩) 1 oc, .map (some mb)]) (by simp [results, Tryd.results81, go_sem, t0, t1, t2, t3]; try rfl) rfl ?_
      exact ⟨⟨ob, oo, oc, mb, g, rfl, HDN.out.2.1, HDN.out.2.2.2.1, by rw [← HY.out]; exact HDN.out.2.2.1⟩, HDN.out.1⟩
    · go_simp
      have hOc : On V15 (V15.alloc (.map #[] 0)) := (On.refl HV15.out.tab).alloc _
      have HV19 := Lib.hid (HV15.out.trans hOc)
      have HF19 : Hid (M0 (V15.alloc (.map #[] 0)) V15.heap.size) := Lib.hid (World.ownsMap_made V15 _ _ _)
      have HF19x7 := Lib.hid (HF15.out.on hOc)
      obtain ⟨mb, hmb⟩ : ∃ m, m = V15.heap.size := ⟨_, rfl⟩
      rw [← hmb] at HF19
      rw [← hmb]
      have HMB := Lib.hid (show W0.heap.size ≤ mb by rw [hmb]; exact HV15.out.size)
      refine hK9.out _ _ HV19.out ?_
      clear hK9 K9 hOc hmb
      try simp only [Act.put, List.setIfInBounds_toArray, List.set_cons_zero, List.set_cons_succ, List.getElem_toArray, List.getElem_cons_zero, List.getElem_cons_succ]
      generalize hw : V15.alloc (.map #[] 0) = V19 at *
      clear hw
      refine HeadG.one (i := 4) rfl (by kernel_rfl) (by kernel_rfl) (fun K9 hK9 => ?_)
      go_simp
      go_at_call 29
      with_reducible refine (HON.out W0 H00.out _ HV19.out).mono ?_
      rintro e V20 ⟨⟨ob, oo, oc, rfl, hob, hfob⟩, hOc⟩
      have HV20 := Lib.hid (HV19.out.trans hOc)
      have HF20 := Lib.hid hob
      have HOBW := Lib.hid (show W0.heap.size ≤ ob from Nat.le_trans HV19.out.size hfob)
      have HNE : Hid (ob ≠ cb) := Lib.hid (by have h9 := HF19x7.out.1; omega)
      have HF20x7 := Lib.hid (HF19x7.out.on hOc)
      have HF20x5 := Lib.hid (HF19.out.on hOc)
      refine hK9.out _ _ HV20.out ?_
      clear hK9 K9 hOc hob hfob
      try simp only [Act.put, List.setIfInBounds_toArray, List.set_cons_zero, List.set_cons_succ, List.getElem_toArray, List.getElem_cons_zero, List.getElem_cons_succ]
      refine HeadG.take (i := 6) (v := .agg #[.int .i64 S.f, .int .u64 (a : Int), .slice (some ⟨ob, oo, none⟩) 1 oc, .map (some mb)]) rfl (by kernel_rfl) (by kernel_rfl) (by kernel_rfl) (by kernel_rfl) (by kernel_rfl) (by kernel_rfl) (by kernel_rfl) (fun _ _ _ h => h) (Or.inl ⟨by rfl, ?y6x21⟩) HV20.out ?r6x21
      case y6x21 => (intro wq hwq; go_simp; try with_reducible rfl)
      try simp only [Act.put, List.setIfInBounds_toArray, List.set_cons_zero, List.set_cons_succ, List.getElem_toArray, List.getElem_cons_zero, List.getElem_cons_succ]
      have hcs := HF20x7.out
      obtain ⟨p0, p1, p2, p3⟩ : _ ∧ _ ∧ _ ∧ _ := ⟨hcs.2.1 0 _ rfl, hcs.2.1 1 _ rfl, hcs.2.1 2 _ rfl, hcs.2.1 3 _ rfl⟩
      have q0 := hcs.2.2 0
      have q1 := hcs.2.2 1
      have q2 := hcs.2.2 2
      have q3 := hcs.2.2 3
      refine HeadG.last (i := 8) rfl (by kernel_rfl) (by kernel_rfl) (by kernel_rfl) (fun K9 hK9 => ?_)
      go_simp
      refine hK9.out _ _ ?_
      clear hK9 K9
      try simp only [Act.put, List.setIfInBounds_toArray, List.set_cons_zero, List.set_cons_succ, List.getElem_toArray, List.getElem_cons_zero, List.getElem_cons_succ]
      have hv0 := HV20.out
      have hob9 := HF20.out
      have hmb9 := HF20x5.out
      obtain ⟨U, hUe⟩ : ∃ U, U = ((((V20.setCell ⟨cb, 0, none⟩ (.int .i64 S.f)).setCell ⟨cb, 1, none⟩ (.int .u64 (a : Int))).setCell ⟨cb, 2, none⟩ (.slice (some ⟨ob, oo, none⟩) 1 oc)).setCell ⟨cb, 3, none⟩ (.map (some mb))) := ⟨_, rfl⟩
      have HU := Lib.hid (cmp_fill HCB.out hv0 hob9 HNE.out hmb9 hcs (.int .i64 S.f) (.int .u64 (a : Int)) (.slice (some ⟨ob, oo, none⟩) 1 oc) (.map (some mb)))
      rw [← hUe] at HU
      rw [← hUe]
      clear hUe hcs p0 p1 p2 p3 q0 q1 q2 q3 hv0 hob9 hmb9
      obtain ⟨hOU, hobU, hmU, hcU⟩ := HU.out
      have p0 := hcU.2.1 0 _ rfl
      have p1 := hcU.2.1 1 _ rfl
      have p2 := hcU.2.1 2 _ rfl
      have p3 := hcU.2.1 3 _ rfl
      have hlk := hmU.look 2 (by omega)
      obtain ⟨s0, s1, s2, s3, s4, s5, s6, s7⟩ := HSY.out U hOU
      rw [HRR.out] at s1
      have hx0 := HX.out U hOU
      go_wp2_with fail
      refine wp_loop_rounds 2 ?_
      rw [rounds_succ]
      go_wp2_with (go_at_call 80; (with_reducible refine (HDV.out U hOU).mono ?_); rintro e w2 ⟨⟨B8, Q9, B7, B5, rfl, hD⟩, hO2⟩)
      have hOU2 := hOU.trans hO2
      have hx9 := HX.out w2 hOU2
      have hyl := HDL.out
      have hC : Calls Tryd.prog 135 #[.int .u64 (x : Int), .pointer (some ⟨B8, 0, none⟩), .pointer (some ⟨Q9, 0, none⟩), .pointer (some ⟨B7, 0, none⟩), .pointer (some ⟨B5, 0, none⟩)] w2 fun e w' => e = .returned (.int .u64 ((dvO S.f r 2 x : Nat) : Int)) ∧ On w2 w' := hD w2 x (On.refl hO2.tab) HX2.out
      clear hD hx0 s0 s1 s2 s3 s4 s5 s6 s7 p0 p1 p2 p3 hlk
      obtain ⟨y, hy⟩ : ∃ y, y = dvO S.f r 2 x := ⟨_, rfl⟩
      rw [← hy] at hC hyl
      have HY := Lib.hid hy
      clear hy
      refine wp_loop_rounds 2 ?_
      rw [rounds_succ]
      go_wp2_with (first
        | (go_at_call 135; (with_reducible refine hC.mono ?_); rintro e w3 ⟨rfl, hO3⟩; obtain ⟨v', w', hrun, hown', hOn⟩ := app_u64 (World.ownsRow_nil w3 w3.heap.size 42 1) (Nat.le_refl _) (y : Int) (by omega))
        | (at_builtin; refine wp_appendJ rfl (.tmp 51) (.tmp 55) _ _ rfl _ _ v' rfl rfl hrun ?_)
        | fail)
      rw [rounds_succ]
      have hO4 := (hO2.trans hO3).trans (hOn w3 (On.refl hO3.tab) (Nat.le_refl _))
      go_upto_region 14 with fail
      have HRD : Reads w' v' [y] := (own_nr (l := [y]) (by simpa [u64s] using hown') (by simp; omega) (by simp)).1
      have HRZ := Lib.hid HRD
      have HO4 := Lib.hid hO4
      have HOW := Lib.hid (hOU.trans hO4)
      have HSYz : Hid (∀ wq, On w' wq → _) := Lib.hid fun wq h => HSY.out wq (HOW.out.trans h)
      have HPz : Hid (∀ wq, On w' wq → wq.cell? ⟨cb, 3, none⟩ = some (.map (some mb))) := Lib.hid fun wq h => (hcU.on (HO4.out.trans h)).2.1 3 _ rfl
      obtain ⟨Vz, hVz⟩ : ∃ V, V = w'.drew := ⟨_, rfl⟩
      have hSz : On w' Vz := by rw [hVz]; exact (On.refl HO4.out.tab).drew
      refine region_head_tail (S := fun wx => On w' wx) 7 (by kernel_rfl) (by kernel_rfl) ?_
      rw [← hVz]
      clear hVz hrun hown' hOn hC hO2 hO3 hO4 hOU2 hx9
      refine HeadG.take (i := 0) (v := ?g5v0) rfl (by kernel_rfl) (by kernel_rfl) (by kernel_rfl) (by kernel_rfl) (by kernel_rfl) (by kernel_rfl) (by kernel_rfl) (fun _ _ _ h => h) (Or.inl ⟨by rfl, ?g5y0⟩) hSz ?g5r0
      case g5y0 => (intro wq hwq; go_simp; try with_reducible rfl)
      try simp only [Act.put, List.setIfInBounds_toArray, List.set_cons_zero, List.set_cons_succ, List.getElem_toArray, List.getElem_cons_zero, List.getElem_cons_succ]
      refine HeadG.take (i := 1) (v := .map (some mb)) rfl (by kernel_rfl) (by kernel_rfl) (by kernel_rfl) (by kernel_rfl) (by kernel_rfl) (by kernel_rfl) (by kernel_rfl) (fun _ _ _ h => h) (Or.inl ⟨by rfl, ?g5y1⟩) hSz ?g5r1
      case g5y1 => (intro wq hwq; have p3 := HPz.out wq hwq; go_simp; try with_reducible rfl)
      try simp only [Act.put, List.setIfInBounds_toArray, List.set_cons_zero, List.set_cons_succ, List.getElem_toArray, List.getElem_cons_zero, List.getElem_cons_succ]
      refine HeadG.take (i := 2) (v := ?g5v2) rfl (by kernel_rfl) (by kernel_rfl) (by kernel_rfl) (by kernel_rfl) (by kernel_rfl) (by kernel_rfl) (by kernel_rfl) (fun _ _ _ h => h) (Or.inl ⟨by rfl, ?g5y2⟩) hSz ?g5r2
      case g5y2 => (intro wq hwq; go_simp; try with_reducible rfl)
      try simp only [Act.put, List.setIfInBounds_toArray, List.set_cons_zero, List.set_cons_succ, List.getElem_toArray, List.getElem_cons_zero, List.getElem_cons_succ]
      refine HeadG.take (i := 3) (v := ?g5v3) rfl (by kernel_rfl) (by kernel_rfl) (by kernel_rfl) (by kernel_rfl) (by kernel_rfl) (by kernel_rfl) (by kernel_rfl) (fun _ _ _ h => h) (Or.inl ⟨by rfl, ?g5y3⟩) hSz ?g5r3
      case g5y3 => (intro wq hwq; go_simp; try with_reducible rfl)
      try simp only [Act.put, List.setIfInBounds_toArray, List.set_cons_zero, List.set_cons_succ, List.getElem_toArray, List.getElem_cons_zero, List.getElem_cons_succ]
      refine HeadG.take (i := 4) (v := .int .i64 S.f) rfl (by kernel_rfl) (by kernel_rfl) (by kernel_rfl) (by kernel_rfl) (by kernel_rfl) (by kernel_rfl) (by kernel_rfl) (fun _ _ _ h => h) (Or.inl ⟨by rfl, ?g5y4⟩) hSz ?g5r4
      case g5y4 => (intro wq hwq; obtain ⟨s0, s1, s2, s3, s4, s5, s6, s7⟩ := HSYz.out wq hwq; go_simp; try with_reducible rfl)
      try simp only [Act.put, List.setIfInBounds_toArray, List.set_cons_zero, List.set_cons_succ, List.getElem_toArray, List.getElem_cons_zero, List.getElem_cons_succ]
      refine HeadG.take (i := 5) (v := ?g5v5) rfl (by kernel_rfl) (by kernel_rfl) (by kernel_rfl) (by kernel_rfl) (by kernel_rfl) (by kernel_rfl) (by kernel_rfl) (fun _ _ _ h => h) (Or.inl ⟨by rfl, ?g5y5⟩) hSz ?g5r5
      case g5y5 => (intro wq hwq; go_simp; try with_reducible rfl)
      try simp only [Act.put, List.setIfInBounds_toArray, List.set_cons_zero, List.set_cons_succ, List.getElem_toArray, List.getElem_cons_zero, List.getElem_cons_succ]
      refine HeadG.one (i := 6) rfl (by kernel_rfl) (by kernel_rfl) (fun K9 hK9 => ?_)
      go_simp
      go_at_call 137
      (with_reducible refine (HIN.out y _ _ (HOW.out.trans hSz) (HRZ.out.on hSz)).mono ?_)
      rintro e w5 ⟨rfl, hg5, hO5⟩
      have hSw : On w' w5 := hSz.trans hO5
      refine hK9.out _ _ hSw ?_
      clear hK9 K9
      try simp only [Act.put, List.setIfInBounds_toArray, List.set_cons_zero, List.set_cons_succ, List.getElem_toArray, List.getElem_cons_zero, List.getElem_cons_succ]
      obtain ⟨g, hge⟩ : ∃ g, g = Vz.heap.size := ⟨_, rfl⟩
      have HGW := Lib.hid (show W0.heap.size ≤ g by rw [hge]; exact (HOW.out.trans hSz).size)
      rw [← hge] at hg5
      rw [← hge]
      clear hge
      obtain ⟨w6, hput, hm6, hOn6, hc6, hv6⟩ := M0.put2 (hmU.on (HO4.out.trans hSw)) 2 (by omega) g
      have HO6 := Lib.hid (hOn6 W0 (HOW.out.trans hSw) HMB.out)
      have HM6 := Lib.hid hm6
      have HG6 := Lib.hid (hc6 _ _ hg5)
      have HOB6 := Lib.hid (hc6 _ _ (cell_on (HO4.out.trans hSw) hobU))
      have HC6 := Lib.hid (hv6 _ _ (hcU.on (HO4.out.trans hSw)) (fun e => ne_map hmU hcU e.symm))
      refine HeadG.last (i := 7) rfl (by kernel_rfl) (by kernel_rfl) (by kernel_rfl) (fun K9 hK9 => ?_)
      go_simp
      refine hK9.out _ _ ?_
      clear hK9 K9
      try simp only [Act.put, List.setIfInBounds_toArray, List.set_cons_zero, List.set_cons_succ, List.getElem_toArray, List.getElem_cons_zero, List.getElem_cons_succ]
      clear hput hm6 hOn6 hc6 hv6 hg5 hO5 hSw hSz hOU hobU hmU hcU HU
      have HQ6 := Lib.hid (HB1.out.on HO6.out)
      have p0 := HC6.out.2.1 0 _ rfl
      have p1 := HC6.out.2.1 1 _ rfl
      have p2 := HC6.out.2.1 2 _ rfl
      have p3 := HC6.out.2.1 3 _ rfl
      have q0 := HQ6.out.2.1 0 _ rfl
      have q1 := HQ6.out.2.1 1 _ rfl
      have q2 := HQ6.out.2.1 2 _ rfl
      have q3 := HQ6.out.2.1 3 _ rfl
      have z0 := HQ6.out.2.2 0
      have z1 := HQ6.out.2.2 1
      have z2 := HQ6.out.2.2 2
      have z3 := HQ6.out.2.2 3
      go_wp2_with fail
      rw [rounds_succ]
      go_wp2_with fail
      obtain ⟨X, hXe⟩ : ∃ X, X = ((((w6.setCell ⟨Q + 1, 0, none⟩ (.int .i64 S.f)).setCell ⟨Q + 1, 1, none⟩ (.int .u64 (a : Int))).setCell ⟨Q + 1, 2, none⟩ (.slice (some ⟨ob, oo, none⟩) 1 oc)).setCell ⟨Q + 1, 3, none⟩ (.map (some mb))) := ⟨_, rfl⟩
      have HDN := Lib.hid (cmp_done (show w.heap.size ≤ Q + 1 by have := HQ.out; omega) HB1.out.1 (HO0.out.trans HO6.out) HOB6.out HOBW.out HG6.out HGW.out HMB.out HM6.out HQ6.out (.int .i64 S.f) (.int .u64 (a : Int)) (.slice (some ⟨ob, oo, none⟩) 1 oc) (.map (some mb)))
      rw [← hXe] at HDN
      rw [← hXe]
      clear hXe p0 p1 p2 p3 q0 q1 q2 q3 z0 z1 z2 z3
      have t0 := HDN.out.2.2.2.2.2.1 0 _ rfl
      have t1 := HDN.out.2.2.2.2.2.1 1 _ rfl
      have t2 := HDN.out.2.2.2.2.2.1 2 _ rfl
      have t3 := HDN.out.2.2.2.2.2.1 3 _ rfl
      refine bodyPost_ret (v := .agg #[.int .i64 S.f, .int .u64 (a : Int), .slice (some ⟨ob, oo, none⟩) 1 oc, .map (some mb)]) (by simp [results, Tryd.results81, go_sem, t0, t1, t2, t3]; try rfl) rfl ?_
      exact ⟨⟨ob, oo, oc, mb, g, rfl, HDN.out.2.1, HDN.out.2.2.2.1, by rw [← HY.out]; exact HDN.out.2.2.1⟩, HDN.out.1⟩
end Go.Proofs.YtnanjacllmdenaaDoor
