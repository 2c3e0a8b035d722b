/- The document's own answers: Same; Through and Vanish beside the program's: the same answers. -/
import Derived.Test.YtmfhaddhfndocaaDoorPrefS
import Derived.Test.YtmfhaddhfndocaaDoorPerr
namespace Go.Proofs.YtmfhaddhfndocaaDoor
open Go.RowKit
set_option linter.unusedVariables false

theorem rsame_any (l m : List Nat) (v v' : Value) (w : World) (hR : Reads w v l) (hR' : Reads w v' m) :
    Calls Tryd.prog 12 #[v, v'] w fun e w' => e = .returned (.bool (decide (l = m))) ∧ ∃ n, w' = w.drewN n := by
  by_cases hlen : l.length = m.length
  · obtain ⟨hU, hL, ⟨rfl, a, cap, rfl⟩ | ⟨b, off, cap, rfl, hc⟩⟩ := hR
    · obtain rfl : m = [] := List.length_eq_zero_iff.1 hlen.symm
      obtain ⟨hU', hL', ⟨_, a', cap', rfl⟩ | ⟨b', off', cap', rfl, hc'⟩⟩ := hR'
      all_goals
        try clear hc'
        go_enter Tryd.func12, Tryd.ntmps12
        go_wp2
        go_rounds 1
        go_ret
        exact ⟨rfl, 0, rfl⟩
    · obtain ⟨hU', hL', ⟨rfl, a', cap', rfl⟩ | ⟨b', off', cap', rfl, hc'⟩⟩ := hR'
      · obtain rfl : l = [] := List.length_eq_zero_iff.1 hlen
        clear hc
        go_enter Tryd.func12, Tryd.ntmps12
        go_wp2
        go_rounds 1
        go_ret
        exact ⟨rfl, 0, rfl⟩
      · have hle1 : l.length ≤ m.length := by omega
        have hne : ((l.length : Int) == (m.length : Int)) = true := by simp; omega
        have HL := Lib.hid hlen; clear hlen
        go_enter Tryd.func12, Tryd.ntmps12
        go_hidden (go_wp2)
        go_loopw [5] (fun vi wr => ∃ k n : Nat, k ≤ l.length ∧ vi = .int .i64 k ∧ Hid (l.take k = m.take k) ∧ Hid (wr = w.drewN n)) (fun vi _ => l.length - (intOf vi).toNat)
        case atStart => exact ⟨0, 0, Nat.zero_le _, rfl, Lib.hid rfl, Lib.hid rfl⟩
        case round =>
          obtain ⟨k, n, hk, rfl, HT, HW⟩ := hrel
          by_cases hlt : k < l.length
          · have hcell : wr.cell? ⟨b, off + k, none⟩ = some (.int .u64 ((l.getD k 0 : Nat) : Int)) := by rw [HW.out]; exact hc k hlt
            have hcell' : wr.cell? ⟨b', off' + k, none⟩ = some (.int .u64 ((m.getD k 0 : Nat) : Int)) := by rw [HW.out]; exact hc' k (by omega)
            have hlt' : k < m.length := by omega
            have hstep := fun hx => take_eq_succ HT.out hlt hlt' hx
            have hno : l.getD k 0 ≠ m.getD k 0 → l ≠ m := fun h e => h (by rw [e])
            have HS := Lib.hid hstep; clear hstep
            have HN := Lib.hid hno; clear hno
            clear hc hc' hU hU'
            generalize l.getD k 0 = x at hcell HS HN
            generalize m.getD k 0 = y at hcell' HS HN
            by_cases hxy : x = y
            · have hne2 : (((x : Nat) : Int) != ((y : Nat) : Int)) = false := by simp [hxy]
              have HT2 := Lib.hid (HS.out hxy)
              have HXY := Lib.hid hxy; clear hxy
              go_wp2
              go_quiet (fail)
              go_wp2
              go_roundw
              case rel => exact ⟨k + 1, n + nq, by omega, by go_num, HT2, by unfold Hid; rw [HW.out]; exact World.drewN_drewN _ _ _⟩
              case measure => simp [intOf]; omega
            · have hne2 : (((x : Nat) : Int) != ((y : Nat) : Int)) = true := by simp; omega
              have HD : Hid (decide (l = m) = false) := by unfold Hid; simpa using HN.out hxy
              have HXY := Lib.hid hxy; clear hxy
              go_wp2
              go_quiet (fail)
              go_wp2
              go_ret
              exact ⟨ret_bool HD.out.symm, n + nq, by rw [HW.out]; exact World.drewN_drewN _ _ _⟩
          · obtain rfl : k = l.length := by omega
            have HE : Hid (decide (l = m) = true) := by
              unfold Hid; have h := HT.out; have h2 := HL.out; rw [List.take_length, h2, List.take_length] at h; simpa using h
            clear hc hc' hU hU'
            go_wp2
            go_ret
            exact ⟨ret_bool HE.out.symm, n, HW.out⟩
  · have hd : decide (l = m) = false := by simp; intro h; exact hlen (by rw [h])
    have HD := Lib.hid hd; clear hd
    have hne : ((l.length : Int) == (m.length : Int)) = false := by simp; omega
    have hL := hR.2.1
    have hL' := hR'.2.1
    obtain ⟨a, cap, rfl⟩ : ∃ a cap, v = .slice a l.length cap := by
      rcases hR.2.2 with ⟨rfl, a, cap, rfl⟩ | ⟨b, off, cap, rfl, _⟩
      · exact ⟨_, _, rfl⟩
      · exact ⟨_, _, rfl⟩
    obtain ⟨a', cap', rfl⟩ : ∃ a cap, v' = .slice a m.length cap := by
      rcases hR'.2.2 with ⟨rfl, a, cap, rfl⟩ | ⟨b, off, cap, rfl, _⟩
      · exact ⟨_, _, rfl⟩
      · exact ⟨_, _, rfl⟩
    clear hR hR'
    have HL := Lib.hid hlen; clear hlen
    go_enter Tryd.func12, Tryd.ntmps12
    go_wp2
    go_ret
    exact ⟨ret_bool HD.out.symm, 0, rfl⟩
theorem rthrough_no (f : Int) (a a' : Option Addr) (n c n' c' : Nat) (w : World) (hT : Tab w) (h : validB f = false ∨ n ≠ n') :
    Calls Tryd.prog 38 #[.int .i64 f, .slice a n c, .slice a' n' c'] w fun e w' => e = .returned (.tuple #[.slice none 0 0, .int .i64 1]) ∧ On w w' := by
  go_enter Tryd.func38, Tryd.ntmps38
  cases hv : validB f
  · have HV := Lib.hid hv
    clear hv h
    go_wp2_with (go_at_call 49; refine (rvalid_any _ _).mono ?_; rintro e w' ⟨rfl, rfl⟩; rw [HV.out])
    go_ret2
    exact ⟨rfl, On.refl hT⟩
  · have hne : n ≠ n' := by rcases h with h | h; rw [hv] at h; cases h; exact h
    have hne1 : ((n : Int) == (n' : Int)) = false := by simp only [beq_eq_false_iff_ne, ne_eq]; omega
    have hne2 : ((n : Int) != (n' : Int)) = true := by simp only [bne_iff_ne, ne_eq]; omega
    have HV := Lib.hid hv
    have HNE := Lib.hid hne
    clear hv h hne
    go_wp2_with (go_at_call 49; refine (rvalid_any _ _).mono ?_; rintro e w' ⟨rfl, rfl⟩; rw [HV.out])
    go_ret2
    exact ⟨rfl, On.refl hT⟩
theorem rvanish_no (f : Int) (v : Value) (w : World) (hT : Tab w) (hv : validB f = false) :
    Calls Tryd.prog 40 #[.int .i64 f, v] w fun e w' => e = .returned (.tuple #[.slice none 0 0, .int .i64 1]) ∧ On w w' := by
  have HV := Lib.hid hv; clear hv
  go_enter Tryd.func40, Tryd.ntmps40
  go_wp2_with (go_at_call 49; refine (rvalid_any _ _).mono ?_; rintro e w' ⟨rfl, rfl⟩; rw [HV.out])
  go_ret2
  exact ⟨rfl, On.refl hT⟩
def Ans (P : Program) (fn : FuncId) (args : Array Value) (w : World) (L : List Nat) (c : Int) : Prop :=
  Calls P fn args w fun e w' => (∃ a n cp, e = .returned (.tuple #[.slice a n cp, .int .i64 c]) ∧ Reads w' (.slice a n cp) L) ∧ On w w'
theorem Ans.none {P : Program} {fn : FuncId} {args : Array Value} {w : World} {c : Int} (h : Calls P fn args w fun e w' => e = .returned (.tuple #[.slice none 0 0, .int .i64 c]) ∧ On w w') : Ans P fn args w [] c :=
  h.mono fun _ _ ⟨h1, h2⟩ => ⟨⟨_, _, _, h1, Reads.nil _ _ _⟩, h2⟩
theorem through_pair (f : Int) (xs ys : List Nat) (hx : ∀ x ∈ xs, x ≤ 18446744073709551615) (hy : ∀ x ∈ ys, x ≤ 18446744073709551615) (hl : xs.length ≤ 800) :
    ∃ L c, (∀ v v' w, Tab w → Reads w v xs → Reads w v' ys → Ans Tryd.prog 37 #[.int .i64 f, v, v'] w L c) ∧ ∀ v v' w, Tab w → Reads w v xs → Reads w v' ys → Ans Tryd.prog 38 #[.int .i64 f, v, v'] w L c := by
  cases hv : validB f
  · refine ⟨[], 1, fun v v' w hT hR hR' => ?_, fun v v' w hT hR hR' => ?_⟩
    · obtain ⟨a, c, rfl⟩ := hR.shape
      obtain ⟨a', c', rfl⟩ := hR'.shape
      exact Ans.none (through_no f _ _ _ _ _ _ w hT hv)
    · obtain ⟨a, c, rfl⟩ := hR.shape
      obtain ⟨a', c', rfl⟩ := hR'.shape
      exact Ans.none (rthrough_no f _ _ _ _ _ _ w hT (.inl hv))
  · by_cases hle : ys.length = xs.length
    · by_cases hok : okN f (ptsL xs ys hx hy)
      · refine ⟨thruL f (ptsL xs ys hx hy), 0, fun v v' w hT hR hR' => ?_, fun v v' w hT hR hR' => ?_⟩
        · refine (w_through2 f xs ys v v' w hT hv hR hR' hle (by omega) hx hy).mono ?_
          rintro e w' ⟨⟨-, a, rfl, h⟩ | ⟨h, -⟩, hO⟩
          · exact ⟨⟨_, _, _, rfl, h⟩, hO⟩
          · exact absurd hok h
        · refine (rthrough_any f xs ys v v' w hT hv hR hR' hle hl hx hy).mono ?_
          rintro e w' ⟨⟨-, u, rfl, h⟩ | ⟨h, -⟩, hO⟩
          · obtain ⟨a, c, rfl⟩ := h.shape
            exact ⟨⟨_, _, _, rfl, h⟩, hO⟩
          · exact absurd hok h
      · refine ⟨[], 6, fun v v' w hT hR hR' => Ans.none ?_, fun v v' w hT hR hR' => Ans.none ?_⟩
        · refine (w_through2 f xs ys v v' w hT hv hR hR' hle (by omega) hx hy).mono ?_
          rintro e w' ⟨⟨h, -⟩ | ⟨-, rfl⟩, hO⟩
          · exact absurd h hok
          · exact ⟨rfl, hO⟩
        · refine (rthrough_any f xs ys v v' w hT hv hR hR' hle hl hx hy).mono ?_
          rintro e w' ⟨⟨h, -⟩ | ⟨-, rfl⟩, hO⟩
          · exact absurd h hok
          · exact ⟨rfl, hO⟩
    · refine ⟨[], 1, fun v v' w hT hR hR' => ?_, fun v v' w hT hR hR' => ?_⟩
      · obtain ⟨a, c, rfl⟩ := hR.shape
        obtain ⟨a', c', rfl⟩ := hR'.shape
        exact Ans.none (through_len f _ _ _ _ _ _ w hT hv (fun h => hle h.symm))
      · obtain ⟨a, c, rfl⟩ := hR.shape
        obtain ⟨a', c', rfl⟩ := hR'.shape
        exact Ans.none (rthrough_no f _ _ _ _ _ _ w hT (.inr fun h => hle h.symm))
theorem vanish_pair (f : Int) (xs : List Nat) (hl : xs.length ≤ 800) :
    ∃ L c, (∀ v w, Tab w → Reads w v xs → Ans Tryd.prog 39 #[.int .i64 f, v] w L c) ∧ ∀ v w, Tab w → Reads w v xs → Ans Tryd.prog 40 #[.int .i64 f, v] w L c := by
  cases hv : validB f
  · exact ⟨[], 1, fun v w hT hR => Ans.none ((vanish_no f v w hT hv).mono fun _ _ ⟨h1, h2⟩ => ⟨h1, h2 ▸ On.refl hT⟩), fun v w hT hR => Ans.none (rvanish_no f v w hT hv)⟩
  · refine ⟨vanL f xs, 0, fun v w hT hR => ?_, fun v w hT hR => ?_⟩
    · refine (w_vanish f xs v w hT hv hR (by omega)).mono ?_
      rintro e w' ⟨a, rfl, h, hO⟩
      exact ⟨⟨_, _, _, rfl, h⟩, hO⟩
    · refine (rvanish_any f xs v w hT hv hR (by omega)).mono ?_
      rintro e w' ⟨⟨u, rfl, h⟩, hO⟩
      obtain ⟨a, c, rfl⟩ := h.shape
      exact ⟨⟨_, _, _, rfl, h⟩, hO⟩
set_option maxHeartbeats 1000000 in
theorem throughs_any (f : Int) (la lb : List Nat) (va vb : Value) (w : World) (hT : Tab w) (hRa : Reads w va la) (hSa : Shape va la) (hRb : Reads w vb lb) (hSb : Shape vb lb) :
    Calls Tryd.prog 5 #[.int .i64 f, va, vb] w fun e w' => e = .returned (.bool true) ∧ On w w' := by
  have ha : (la.take 24).length ≤ 24 := by rw [List.length_take]; omega
  have HC1 := Lib.hid (own_any la 24 va w hT hRa hSa (by omega))
  have HRb := Lib.hid hRb; have HSb := Lib.hid hSb
  clear hRa hSa hRb hSb
  generalize la.take 24 = a at *
  go_enter Tryd.func5, Tryd.ntmps5
  go_wp2_with fail
  refine HC1.out.mono ?_
  rintro e w1 ⟨⟨v1, rfl, hR1⟩, hO1⟩
  have HX := Lib.hid hO1; have RA := Lib.hid hR1
  clear hO1 hR1 HC1
  go_wp2_with fail
  refine (own_any lb 24 vb w1 HX.out.tab (HRb.out.on HX.out) HSb.out (by omega)).mono ?_
  rintro e w2 ⟨⟨v2, rfl, hR2⟩, hO1⟩
  have RA := Lib.hid (RA.out.on hO1)
  have HX := Lib.hid (HX.out.trans hO1); have RB := Lib.hid hR2
  clear hO1 hR2 HRb HSb
  generalize lb.take 24 = b at *
  obtain ⟨L, c, hT1, hT2⟩ := through_pair f a b RA.out.1 RB.out.1 (by omega)
  obtain ⟨M, d, hV1, hV2⟩ := vanish_pair f a (by omega)
  have T1 := Lib.hid hT1; have T2 := Lib.hid hT2; have V1 := Lib.hid hV1; have V2 := Lib.hid hV2
  clear hT1 hT2 hV1 hV2
  go_wp2_with fail
  refine (T1.out _ _ _ HX.out.tab RA.out RB.out).mono ?_
  rintro e w3 ⟨⟨a1, n1, c1, rfl, hr⟩, hO1⟩
  have RA := Lib.hid (RA.out.on hO1); have RB := Lib.hid (RB.out.on hO1); have RP := Lib.hid hr
  have HX := Lib.hid (HX.out.trans hO1)
  clear hO1 hr
  go_wp2_with fail
  refine (T2.out _ _ _ HX.out.tab RA.out RB.out).mono ?_
  rintro e w4 ⟨⟨a2, n2, c2, rfl, hr⟩, hO1⟩
  have RA := Lib.hid (RA.out.on hO1); have RP := Lib.hid (RP.out.on hO1); have RQ := Lib.hid hr
  have HX := Lib.hid (HX.out.trans hO1)
  clear hO1 hr
  go_wp2_with fail
  refine (V1.out _ _ HX.out.tab RA.out).mono ?_
  rintro e w5 ⟨⟨a3, n3, c3, rfl, hr⟩, hO1⟩
  have RA := Lib.hid (RA.out.on hO1); have RP := Lib.hid (RP.out.on hO1); have RQ := Lib.hid (RQ.out.on hO1); have RV := Lib.hid hr
  have HX := Lib.hid (HX.out.trans hO1)
  clear hO1 hr
  go_wp2_with fail
  refine (V2.out _ _ HX.out.tab RA.out).mono ?_
  rintro e w6 ⟨⟨a4, n4, c4, rfl, hr⟩, hO1⟩
  have RP := Lib.hid (RP.out.on hO1); have RQ := Lib.hid (RQ.out.on hO1); have RV := Lib.hid (RV.out.on hO1); have RW := Lib.hid hr
  have HX := Lib.hid (HX.out.trans hO1)
  clear hO1 hr
  go_wp2_with fail
  refine (rsame_any L L _ _ w6 RP.out RQ.out).mono ?_
  rintro e w' ⟨rfl, q, rfl⟩
  rw [show decide (L = L) = true by simp]
  obtain ⟨w7, hw7⟩ : ∃ w7, w7 = w6.drewN q := ⟨_, rfl⟩
  rw [← hw7]
  have RV := Lib.hid (RV.out.drewN q); have RW := Lib.hid (RW.out.drewN q); have HX := Lib.hid (HX.out.drewN q)
  rw [← hw7] at RV RW HX
  clear hw7
  go_wp2_with fail
  refine (rsame_any M M _ _ w7 RV.out RW.out).mono ?_
  rintro e w' ⟨rfl, q2, rfl⟩
  rw [show decide (M = M) = true by simp]
  obtain ⟨w8, hw8⟩ : ∃ w8, w8 = w7.drewN q2 := ⟨_, rfl⟩
  rw [← hw8]
  have HX := Lib.hid (HX.out.drewN q2)
  rw [← hw8] at HX
  clear hw8
  go_wp2_with fail
  refine (works_any _ HX.out.tab).mono ?_
  rintro e w9 ⟨rfl, hO1⟩
  have HX := Lib.hid (HX.out.trans hO1)
  clear hO1
  go_wp2
  go_ret
  exact ⟨rfl, HX.out⟩
end Go.Proofs.YtmfhaddhfndocaaDoor
