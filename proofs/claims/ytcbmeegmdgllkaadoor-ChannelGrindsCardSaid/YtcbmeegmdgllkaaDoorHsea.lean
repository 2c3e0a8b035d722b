/- Search of a channel: what the calls return. -/
import Derived.Test.YtcbmeegmdgllkaaDoorHgrd
namespace Go.Proofs.YtcbmeegmdgllkaaDoor
open Go.RowKit
set_option linter.unusedVariables false

theorem search_no (f b m : Int) (s : St) (w : World) (hT : Tab w) (hb : bitB b = false) :
    Calls Tryd.prog 17 #[.agg #[.int .i64 f, .int .u64 (s.a : Int), .int .u64 (s.b : Int), .int .u64 (s.c : Int), .int .u64 (s.d : Int)], .int .i64 b, .int .i64 m] w fun e w' => e = .returned (.tuple #[.int .u64 0, .bool false]) ∧ On w w' := by
  have HO : Hid (On w ((w.alloc (.cells #[.int .i64 f, .int .u64 (s.a : Int), .int .u64 (s.b : Int), .int .u64 (s.c : Int), .int .u64 (s.d : Int)] 25)).alloc (.cells #[.int .i64 b] 3))) := ((On.refl hT).alloc _).alloc _
  have HV : Hid (∀ w, Calls Tryd.prog 30 #[.int .i64 b] w fun e w' => e = .returned (.bool false) ∧ w = w') := fun w => by have h := bits_any b w; rw [hb] at h; exact h
  clear hT hb
  go_enter Tryd.func17, Tryd.ntmps17
  go_wp2_with fail
  with_reducible refine (HV.out _).mono ?_
  rintro e w' ⟨rfl, rfl⟩
  go_wp2
  go_ret2
  exact ⟨rfl, HO.out⟩
set_option maxHeartbeats 2000000 in
set_option maxRecDepth 100000 in
/-- The function that Search makes. -/
theorem good_any (A B : Nat) (f b : Int) (s : St) (n : Nat) (w : World) (hT : Tab w) (hA : VB A w (chL f s)) (hB : VB B w [.int .i64 b]) (hs : Sm s) (hn : n ≤ 18446744073709551615) :
    Calls Tryd.prog 33 #[.int .u64 (n : Int), .pointer (some ⟨A, 0, none⟩), .pointer (some ⟨B, 0, none⟩)] w fun e w' => e = .returned (.bool (gdB f s n b)) ∧ On w w' := by
  obtain ⟨c0, c1, c2, c3, c4⟩ := hA.cells5
  have b0 := hB.2.1 0 _ rfl
  obtain ⟨Z, hZ⟩ : ∃ Z, Z = ifS (validB f && bitB b) (grdS f s n) := ⟨_, rfl⟩
  obtain ⟨F, hF⟩ : ∃ F, F = ifF (validB f && bitB b) f := ⟨_, rfl⟩
  obtain ⟨G, hG⟩ : ∃ G, G = gdB f s n b := ⟨_, rfl⟩
  have HG : Hid (Calls Tryd.prog 15 #[.agg #[.int .i64 f, .int .u64 (s.a : Int), .int .u64 (s.b : Int), .int .u64 (s.c : Int), .int .u64 (s.d : Int)], .int .u64 (n : Int), .int .i64 b] w fun e w' => e = .returned (.tuple #[.agg #[.int .i64 F, .int .u64 (Z.a : Int), .int .u64 (Z.b : Int), .int .u64 (Z.c : Int), .int .u64 (Z.d : Int)], .bool G]) ∧ On w w') := by rw [hZ, hF, hG]; exact grind_any f b s n w hT hs hn
  rw [← hG]
  clear hT hZ hF hs hn hA hB hG
  go_enter Tryd.func33, Tryd.ntmps33
  go_wp2_with fail
  with_reducible refine HG.out.mono ?_
  rintro e w2 ⟨rfl, hO2⟩
  have HO2 := Lib.hid hO2
  clear hO2 c0 c1 c2 c3 c4 b0
  go_wp2
  go_ret
  exact ⟨rfl, HO2.out.alloc _⟩
/-- How far Search looks. -/
def bndS (f m : Int) : Nat := min (min m.toNat (pOf f)) 1048576
theorem bndS_le (f m : Int) : bndS f m ≤ 1048576 := Nat.min_le_right _ _
/-- The least good nonce. -/
def srch (f : Int) (s : St) (b m : Int) : Option Nat := (List.range (bndS f m)).find? fun n => gdB f s n b
theorem srch_some {f : Int} {s : St} {b m : Int} {k : Nat} (hk : k < bndS f m) (hg : gdB f s k b = true) (h : ∀ j, j < k → gdB f s j b = false) : srch f s b m = some k := by
  unfold srch
  rw [List.find?_range_eq_some]
  exact ⟨hg, by simpa using hk, fun j hj => by rw [h j hj]; rfl⟩
theorem srch_none {f : Int} {s : St} {b m : Int} (h : ∀ j, j < bndS f m → gdB f s j b = false) : srch f s b m = none := by
  unfold srch
  rw [List.find?_eq_none]
  intro j hj
  simp [h j (by simpa using hj)]
theorem gdB_no {f : Int} {s : St} {n : Nat} {b : Int} (h : bitB b = false) : gdB f s n b = false := by unfold gdB; rw [h]; simp
def optN (o : Option Nat) : Nat := o.getD 0
def optB (o : Option Nat) : Bool := o.isSome
set_option maxHeartbeats 2000000 in
set_option maxRecDepth 100000 in
theorem search_yes (f b m : Int) (s : St) (w : World) (hT : Tab w) (hb : bitB b = true) (hs : Sm s) (hm : m ≤ 9223372036854775807) (hm0 : -9223372036854775808 ≤ m) :
    Calls Tryd.prog 17 #[.agg #[.int .i64 f, .int .u64 (s.a : Int), .int .u64 (s.b : Int), .int .u64 (s.c : Int), .int .u64 (s.d : Int)], .int .i64 b, .int .i64 m] w fun e w' => e = .returned (.tuple #[.int .u64 (optN (srch f s b m) : Int), .bool (optB (srch f s b m))]) ∧ On w w' := by
  obtain ⟨W0, hW0⟩ : ∃ W0, W0 = (w.alloc (.cells #[.int .i64 f, .int .u64 (s.a : Int), .int .u64 (s.b : Int), .int .u64 (s.c : Int), .int .u64 (s.d : Int)] 25)).alloc (.cells #[.int .i64 b] 3) := ⟨_, rfl⟩
  have hO : On w W0 := by rw [hW0]; exact ((On.refl hT).alloc _).alloc _
  have hA : VB w.heap.size W0 (chL f s) := by rw [hW0]; exact (vb_new w _ _).on ((On.refl ((On.refl hT).alloc _).tab).alloc _)
  have hB : VB (w.heap.size + 1) W0 [.int .i64 b] := by rw [hW0]; have := vb_new (w.alloc (.cells #[.int .i64 f, .int .u64 (s.a : Int), .int .u64 (s.b : Int), .int .u64 (s.c : Int), .int .u64 (s.d : Int)] 25)) #[.int .i64 b] 3; simpa using this
  have HV : Hid (∀ w, Calls Tryd.prog 30 #[.int .i64 b] w fun e w' => e = .returned (.bool true) ∧ w = w') := fun w => by have h := bits_any b w; rw [hb] at h; exact h
  obtain ⟨M, hM⟩ : ∃ M, M = m.toNat := ⟨_, rfl⟩
  obtain ⟨p, hp⟩ : ∃ p, p = pOf f := ⟨_, rfl⟩
  have hple : p ≤ 998244353 := by rw [hp]; exact pOf_le f
  obtain ⟨N, hN⟩ : ∃ N, N = bndS f m := ⟨_, rfl⟩
  have hNle : N ≤ 1048576 := by rw [hN]; exact bndS_le f m
  have h1 : max m 0 = (M : Int) := by omega
  have h2 : min (min (M : Int) (p : Int)) 1048576 = (N : Int) := by rw [hN, hM, hp]; unfold bndS; omega
  have hMle : M ≤ 9223372036854775807 := by omega
  have HP : Hid (∀ w, Tab w → Calls Tryd.prog 34 #[.int .i64 f] w fun e w' => e = .returned (.int .u64 (p : Int)) ∧ w = w') := fun w h => by rw [hp]; exact p_any f w h
  have HGD : Hid (∀ u n, Tab u → VB w.heap.size u (chL f s) → VB (w.heap.size + 1) u [.int .i64 b] → n ≤ 18446744073709551615 → Calls Tryd.prog 33 #[.int .u64 ((n : Nat) : Int), .pointer (some ⟨w.heap.size, 0, none⟩), .pointer (some ⟨w.heap.size + 1, 0, none⟩)] u fun e w' => e = .returned (.bool (gdB f s n b)) ∧ On u w') := fun u n hu ha hb2 hn => good_any _ _ f b s n u hu ha hb2 hs hn
  have HSOME : Hid (∀ k, k < N → gdB f s k b = true → (∀ j, j < k → gdB f s j b = false) → srch f s b m = some k) := fun k hk hg h => srch_some (hN ▸ hk) hg h
  have HNONE : Hid ((∀ j, j < N → gdB f s j b = false) → srch f s b m = none) := fun h => srch_none (hN ▸ h)
  have HO := Lib.hid hO
  have HW0 := Lib.hid hW0
  have HA := Lib.hid hA
  have HB := Lib.hid hB
  obtain ⟨c0, c1, c2, c3, c4⟩ := hA.cells5
  have b0 := hB.2.1 0 _ rfl
  have hmf : ∀ (fn : Fn) (first cap : Array Value) (w : World), (Instr.makeFunc fn first cap).run Tryd.prog w = .ok (.func fn first cap) w := fun _ _ _ _ => rfl
  have hmin : ∀ w, (Builtin.min_ #[22, 22, 22] 22 #[.int .u64 (M : Int), .int .u64 (p : Int), .int .u64 1048576]).run Tryd.prog w = .ok (.int .u64 (N : Int)) w := fun w => by
    rw [← h2]
    simp only [Builtin.min_, List.foldlM_cons, List.foldlM_nil, Builtin.min2]
    simp [Sem.run_bind]
    try (repeat' split) <;> (try simp) <;> omega
  have hw1 : IntKind.u64.wrap (M : Int) = (M : Int) := IntWalk.u64_in _ (by omega)
  have HM1 := Lib.hid h1
  have HM2 := Lib.hid h2
  clear hW0 hA hB hO hT hb hM hp hN hs hm hm0 h1 h2
  go_enter Tryd.func17, Tryd.ntmps17
  go_upto_region 1 with fail
  rw [← HW0.out]
  go_wp2_with fail
  with_reducible refine (HV.out _).mono ?_
  rintro e w' ⟨rfl, rfl⟩
  have h1 := HM1.out
  go_wp2_with fail
  with_reducible refine (HP.out _ HO.out.tab).mono ?_
  rintro e w' ⟨rfl, rfl⟩
  have h2 := HM2.out
  clear h1 c0 c1 c2 c3 c4 b0
  go_upto_region 5 with fail
  clear h2 hw1 hmin
  go_loopw [21] (fun vi wr => ∃ k : Nat, k ≤ N ∧ vi = .int .u64 (k : Int) ∧ Hid (∀ j, j < k → gdB f s j b = false) ∧ Hid (VB w.heap.size wr (chL f s)) ∧ Hid (VB (w.heap.size + 1) wr [.int .i64 b]) ∧ Hid (On w wr)) (fun vi _ => N - (intOf vi).toNat)
  case atStart => exact ⟨0, by omega, rfl, fun j hj => absurd hj (by omega), HA.out, HB.out, HO.out⟩
  case round =>
    obtain ⟨k, hk, rfl, HJ, HA2, HB2, HO2⟩ := hrel
    by_cases hkN : k < N
    · have HG := Lib.hid (HGD.out wr k HO2.out.tab HA2.out HB2.out (by omega))
      cases hg : gdB f s k b
      · have HK : Hid (∀ j, j < k + 1 → gdB f s j b = false) := fun j hj => by
          rcases Nat.lt_or_ge j k with h | h
          · exact HJ.out j h
          · obtain rfl : j = k := by omega
            exact hg
        rw [hg] at HG
        clear hg
        go_wp2_with fail
        with_reducible refine HG.out.mono ?_
        rintro e w2 ⟨rfl, hO2⟩
        have HA3 := Lib.hid (HA2.out.on hO2)
        have HB3 := Lib.hid (HB2.out.on hO2)
        have HO3 := Lib.hid (HO2.out.trans hO2)
        clear hO2
        go_wp2
        go_roundw
        case rel => exact ⟨k + 1, by omega, by go_num, HK.out, HA3.out, HB3.out, HO3.out⟩
        case measure => simp [intOf]; omega
      · have HS := Lib.hid (HSOME.out k hkN hg HJ.out)
        rw [hg] at HG
        clear hg
        go_wp2_with fail
        with_reducible refine HG.out.mono ?_
        rintro e w2 ⟨rfl, hO2⟩
        have HO3 := Lib.hid (HO2.out.trans hO2)
        clear hO2
        go_wp2
        go_ret2
        exact ⟨by rw [HS.out]; rfl, HO3.out⟩
    · obtain rfl : k = N := by omega
      have HS := Lib.hid (HNONE.out HJ.out)
      go_wp2
      go_ret2
      exact ⟨by rw [HS.out]; rfl, HO2.out⟩
/-- What Search returns, in all cases. -/
theorem search_any (f b m : Int) (s : St) (w : World) (hT : Tab w) (hs : Sm s) (hm : m ≤ 9223372036854775807) (hm0 : -9223372036854775808 ≤ m) :
    Calls Tryd.prog 17 #[.agg #[.int .i64 f, .int .u64 (s.a : Int), .int .u64 (s.b : Int), .int .u64 (s.c : Int), .int .u64 (s.d : Int)], .int .i64 b, .int .i64 m] w fun e w' => e = .returned (.tuple #[.int .u64 (optN (srch f s b m) : Int), .bool (optB (srch f s b m))]) ∧ On w w' := by
  cases hb : bitB b
  · rw [srch_none fun j _ => gdB_no hb]; exact search_no f b m s w hT hb
  · exact search_yes f b m s w hT hb hs hm hm0
end Go.Proofs.YtcbmeegmdgllkaaDoor
