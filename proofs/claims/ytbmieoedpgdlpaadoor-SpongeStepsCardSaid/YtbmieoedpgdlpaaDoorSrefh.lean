/- The document's own Hash: what the call returns. -/
import Derived.Test.YtbmieoedpgdlpaaDoorSrefc
namespace Go.Proofs.YtbmieoedpgdlpaaDoor
open Go.RowKit
set_option linter.unusedVariables false

theorem Reads.at {w : World} {b off n cap : Nat} {l : List Nat} (h : Reads w (.slice (some ⟨b, off, none⟩) n cap) l) (i : Nat) (hi : i < l.length) : w.cell? ⟨b, off + i, none⟩ = some (.int .u64 ((l.getD i 0 : Nat) : Int)) := by
  obtain ⟨_, _, ⟨rfl, _⟩ | ⟨b', off', cap', hv, hc⟩⟩ := h
  · simp at hi
  · simp only [Value.slice.injEq, Option.some.injEq, Addr.mk.injEq] at hv
    obtain ⟨⟨rfl, rfl, _⟩, _, _⟩ := hv
    exact hc i hi
theorem Reads.le {w : World} {v : Value} {l : List Nat} (h : Reads w v l) (i : Nat) : l.getD i 0 ≤ 18446744073709551615 := by
  rw [List.getD_eq_getElem?_getD]
  by_cases hi : i < l.length
  · rw [List.getElem?_eq_getElem hi]; exact h.1 _ (List.getElem_mem _)
  · rw [List.getElem?_eq_none (by omega)]; exact Nat.zero_le _
set_option maxHeartbeats 4000000 in
set_option maxRecDepth 100000 in
theorem rhash_any (f : Int) (l : List Nat) (a : Option Addr) (cap : Nat) (w : World) (hT : Tab w) (hR : Reads w (.slice a l.length cap) l) (hcap : l.length ≤ cap) (hln : l.length ≤ 9223372036854775800) :
    Calls Tryd.prog 22 #[.int .i64 f, .slice a l.length cap] w fun e w' => e = .returned (.agg #[.int .u64 ((okN f (hashS f l).a : Nat) : Int), .int .u64 ((okN f (hashS f l).b : Nat) : Int)]) ∧ On w w' := by
  cases hv : validB f
  · have HV := Lib.hid hv; clear hv
    rw [okN_no HV.out, okN_no HV.out]
    have HT := Lib.hid hT
    clear hT hR hcap hln
    go_enter Tryd.func22, Tryd.ntmps22
    go_wp2_with (go_at_call 30; refine (rvalid_any _ _).mono ?_; rintro e w' ⟨rfl, rfl⟩; rw [HV.out])
    go_returns
    exact ⟨rfl, by repeat (first | exact On.refl HT.out | refine On.setCell ?_ (by simp) _ | refine On.alloc ?_ _)⟩
  · have hp := (valid_iff f).1 hv
    have hle := pOf_le f
    have HV := Lib.hid hv
    rw [okN_yes hv, okN_yes hv]
    have HR0 := Lib.hid hR
    have hB0 := blk_new2 w 0 0 32
    have HO0 : Hid (On w (w.alloc (.cells #[.int .u64 0, .int .u64 0] 32))) := (On.refl hT).alloc _
    have HB := Lib.hid hB0
    obtain ⟨T, hTT⟩ : ∃ T, T = hashTo f l := ⟨_, rfl⟩
    have HE : Hid (∀ k, Els f (T k)) := fun k => by rw [hTT]; exact hashTo_els f l k hp
    have hT0 : T 0 = ⟨0, 0, addF f 0 l.length, 0⟩ := by rw [hTT, addF_pos _ _ _ hp, Nat.zero_add]; rfl
    have HTN : Hid (∀ k, T (k + 1) = permS f ⟨((T k).a + l.getD (2 * k) 0) % pOf f, ((T k).b + l.getD (2 * k + 1) 0) % pOf f, (T k).c, (T k).d⟩) := fun k => by rw [hTT]; rfl
    have HEND : Hid (hashS f l = if l.length = 0 then permS f (T 0) else T ((l.length + 1) / 2)) := by rw [hTT]; rfl
    have hwn : IntKind.u64.wrap ((l.length : Nat) : Int) = ((l.length : Nat) : Int) := IntWalk.u64_in _ (by omega)
    have HG : Hid (∀ i, l.length ≤ i → l.getD i 0 = 0) := fun i hi => by rw [List.getD_eq_getElem?_getD, List.getElem?_eq_none hi]; rfl
    have HXL : Hid (∀ i, l.getD i 0 ≤ 18446744073709551615) := fun i => hR.le i
    have HN0 := Lib.hid (fun w => radd_any f 0 l.length w (by omega) (by omega))
    have hxl := addF_le f 0 l.length
    obtain ⟨X, hX⟩ : ∃ X, X = addF f 0 l.length := ⟨_, rfl⟩
    rw [← hX] at HN0 hT0 hxl
    have HX := Lib.hid hX
    have HT0 := Lib.hid hT0
    clear hB0 hT0 hTT hR hX
    obtain ⟨n, hn⟩ : ∃ n, l.length = n := ⟨_, rfl⟩
    rw [hn] at hcap hln hwn HN0 HR0 HEND HG ⊢
    have HL := Lib.hid hn
    clear hn hT hv
    rcases Nat.eq_zero_or_pos n with h0 | h0
    · subst h0
      have hsl : Sm (T 0) := (HE.out 0).sm
      obtain ⟨z, hz⟩ : ∃ z, z = hashS f l := ⟨_, rfl⟩
      have hzz : permS f (T 0) = z := by rw [hz, HEND.out, if_pos rfl]
      rw [HT0.out] at hzz hsl
      have HZ := Lib.hid hz
      have HZZ := Lib.hid hzz
      have HSL := Lib.hid hsl
      clear hz hzz hsl HTN HE HEND
      go_enter Tryd.func22, Tryd.ntmps22
      go_upto_region 1 with fail
      generalize hw0 : w.alloc (.cells #[.int .u64 0, .int .u64 0] 32) = w0 at *
      clear hw0
      go_wp2_with (go_at_call 30; refine (rvalid_any _ _).mono ?_; rintro e w' ⟨rfl, rfl⟩; rw [HV.out])
      refine (HN0.out _).mono ?_
      rintro e w1 ⟨rfl, hD1⟩
      have hO1 := hD1.on (On.refl HO0.out.tab)
      have HD1 := Lib.hid (HB.out.on hO1)
      have HO1 := Lib.hid (HO0.out.trans hO1)
      have hz1 : w.heap.size < w1.heap.size := HD1.out.1
      have HS1 := Lib.hid (blk_new4 w1 0 0 X 0 23)
      have HO2 : Hid (On w1 (w1.alloc (.cells #[.int .u64 0, .int .u64 0, .int .u64 (X : Int), .int .u64 0] 23))) := (On.refl HO1.out.tab).alloc _
      clear hO1 hD1 HB HO0
      go_upto_region 4 with fail
      generalize hw2 : w1.alloc (.cells #[.int .u64 0, .int .u64 0, .int .u64 (X : Int), .int .u64 0] 23) = w2 at *
      clear hw2
      have HD2 := Lib.hid (HD1.out.on HO2.out)
      have HO3 := Lib.hid (HO1.out.trans HO2.out)
      have c0 : w2.cell? ⟨w1.heap.size, 0, none⟩ = some (.int .u64 0) := HS1.out.at4 0 (by omega)
      have c1 : w2.cell? ⟨w1.heap.size, 1, none⟩ = some (.int .u64 0) := HS1.out.at4 1 (by omega)
      have c2 : w2.cell? ⟨w1.heap.size, 2, none⟩ = some (.int .u64 (X : Int)) := HS1.out.at4 2 (by omega)
      have c3 : w2.cell? ⟨w1.heap.size, 3, none⟩ = some (.int .u64 0) := HS1.out.at4 3 (by omega)
      generalize w1.heap.size = S at *
      have HC : Hid (Calls Tryd.prog 18 #[.int .i64 f, .agg #[.int .u64 0, .int .u64 0, .int .u64 (X : Int), .int .u64 0]] w2 fun e w' => e = .returned (.agg #[.int .u64 (z.a : Int), .int .u64 (z.b : Int), .int .u64 (z.c : Int), .int .u64 (z.d : Int)]) ∧ On w2 w') := by
        have h := rperm_any f ⟨0, 0, X, 0⟩ w2 HO3.out.tab HSL.out
        rw [okS_yes HV.out, HZZ.out] at h
        exact h
      clear HD1 HO1 HO2
      go_wp2_with fail
      with_reducible refine HC.out.mono ?_
      rintro e w5 ⟨rfl, hO5⟩
      have HS5 : Hid (Blk S w5 (fl4 (ix ⟨0, 0, X, 0⟩))) := HS1.out.on hO5
      have HD5 := Lib.hid (HD2.out.on hO5)
      have HO5 := Lib.hid (HO3.out.trans hO5)
      clear hO5 HC c0 c1 c2 c3 HS1 HD2 HO3
      obtain ⟨y0, y1, y2, y3⟩ := HS5.out.cells4
      obtain ⟨g0, g1, g2, g3⟩ := HS5.out.free4
      have HS6 := Lib.hid (HS5.out.store4 z)
      have HD6 := Lib.hid (HD5.out.other4 (C := S) (by omega) (.int .u64 (z.a : Int)) (.int .u64 (z.b : Int)) (.int .u64 (z.c : Int)) (.int .u64 (z.d : Int)))
      have HO6 := Lib.hid (HO5.out.store4 (C := S) (by omega) (.int .u64 (z.a : Int)) (.int .u64 (z.b : Int)) (.int .u64 (z.c : Int)) (.int .u64 (z.d : Int)))
      go_wp2_with fail
      generalize hw6 : (((w5.setCell ⟨S, 0, none⟩ (.int .u64 (z.a : Int))).setCell ⟨S, 1, none⟩ (.int .u64 (z.b : Int))).setCell ⟨S, 2, none⟩ (.int .u64 (z.c : Int))).setCell ⟨S, 3, none⟩ (.int .u64 (z.d : Int)) = w6 at *
      clear hw6 HS5 HD5 HO5 y0 y1 y2 y3 g0 g1 g2 g3
      go_loopw [6] (fun vi wr => vi = .int .i64 0 ∧ Hid (Blk S wr (fl4 (ix z))) ∧ Hid (Blk w.heap.size wr [0, 0]) ∧ Hid (On w wr)) (fun vi _ => 0)
      case atStart => exact ⟨rfl, HS6, HD6, HO6⟩
      case round =>
        obtain ⟨rfl, HS, HD, HO⟩ := hrel
        have HF2 := HS.out
        obtain ⟨c0, c1, c2, c3⟩ := HF2.cells4
        obtain ⟨r0, r1⟩ := HD.out.cells2
        have f0 := HD.out.free 0
        have f1 := HD.out.free 1
        have HP := Lib.hid (Blk.cells2 (HD.out.store2 z.a z.b))
        go_wp2
        obtain ⟨p0, p1⟩ := HP.out
        refine bodyPost_ret (v := .agg #[.int .u64 (z.a : Int), .int .u64 (z.b : Int)]) (by simp [results, Tryd.results22, go_sem, p0, p1]; try rfl) rfl ?_
        exact ⟨by rw [HZ.out], HO.out.store2 (by omega) _ _⟩
    · obtain ⟨z, hz⟩ : ∃ z, z = hashS f l := ⟨_, rfl⟩
      have hzz : T ((n + 1) / 2) = z := by rw [hz, HEND.out, if_neg (by omega)]
      have HZ := Lib.hid hz
      have HZZ := Lib.hid hzz
      obtain ⟨b, off, rfl⟩ : ∃ b off, a = some ⟨b, off, none⟩ := by
        obtain ⟨_, _, ⟨h1, _⟩ | ⟨b, off, cap', hv, _⟩⟩ := HR0.out
        · have := HL.out; rw [h1] at this; simp at this; omega
        · simp only [Value.slice.injEq] at hv; exact ⟨b, off, hv.1⟩
      have hn0 : ((n : Int) == 0) = false := by simp; omega
      clear hz hzz HEND
      go_enter Tryd.func22, Tryd.ntmps22
      go_upto_region 1 with fail
      generalize hw0 : w.alloc (.cells #[.int .u64 0, .int .u64 0] 32) = w0 at *
      clear hw0
      go_wp2_with (go_at_call 30; refine (rvalid_any _ _).mono ?_; rintro e w' ⟨rfl, rfl⟩; rw [HV.out])
      refine (HN0.out _).mono ?_
      rintro e w1 ⟨rfl, hD1⟩
      have hO1 := hD1.on (On.refl HO0.out.tab)
      have HD1 := Lib.hid (HB.out.on hO1)
      have HO1 := Lib.hid (HO0.out.trans hO1)
      have hz1 : w.heap.size < w1.heap.size := HD1.out.1
      have HS1 := Lib.hid (blk_new4 w1 0 0 X 0 23)
      have HO2 : Hid (On w1 (w1.alloc (.cells #[.int .u64 0, .int .u64 0, .int .u64 (X : Int), .int .u64 0] 23))) := (On.refl HO1.out.tab).alloc _
      clear hO1 hD1 HB HO0
      go_upto_region 4 with fail
      generalize hw2 : w1.alloc (.cells #[.int .u64 0, .int .u64 0, .int .u64 (X : Int), .int .u64 0] 23) = w2 at *
      clear hw2
      have HD2 := Lib.hid (HD1.out.on HO2.out)
      have HO3 := Lib.hid (HO1.out.trans HO2.out)
      have HS2 : Hid (Blk w1.heap.size w2 (fl4 (ix (T 0)))) := by refine Lib.hid ?_; rw [HT0.out]; exact HS1.out
      generalize w1.heap.size = S at *
      clear HD1 HO1 HO2 HS1
      go_wp2_with fail
      go_loopw [6] (fun vi wr => ∃ k : Nat, k ≤ (n + 1) / 2 ∧ vi = .int .i64 ((2 * k : Nat) : Int) ∧ Hid (Blk S wr (fl4 (ix (T k)))) ∧ Hid (Blk w.heap.size wr [0, 0]) ∧ Hid (On w wr)) (fun vi _ => n + 2 - (intOf vi).toNat)
      case atStart => exact ⟨0, Nat.zero_le _, rfl, HS2, HD2, HO3⟩
      case round =>
        clear HS2 HD2 HO3
        obtain ⟨k, hk, rfl, HS, HD, HO⟩ := hrel
        obtain ⟨i, hi⟩ : ∃ i, i = 2 * k := ⟨_, rfl⟩
        rw [← hi]
        by_cases hlt : i < n
        · have HI := Lib.hid hi
          have hx := HXL.out i
          have hcl : wr.cell? ⟨b, off + i, none⟩ = some (.int .u64 ((l.getD i 0 : Nat) : Int)) := (HR0.out.on HO.out).at i (by have := HL.out; omega)
          have HCL2 : Hid (i + 1 < n → ∀ wq, On w wq → wq.cell? ⟨b, off + (i + 1), none⟩ = some (.int .u64 ((l.getD (i + 1) 0 : Nat) : Int))) := fun h wq hq => (HR0.out.on hq).at (i + 1) (by have := HL.out; omega)
          have HN1 := HTN.out k
          have HKK := Lib.hid (HTN.out k)
          have hels := HE.out k
          rw [← hi] at HN1
          obtain ⟨nx, hnx⟩ : ∃ nx, nx = T (k + 1) := ⟨_, rfl⟩
          have HK : Hid (T (k + 1) = nx) := hnx.symm
          rw [← hnx] at HN1
          have HG1 := Lib.hid (HG.out (i + 1))
          have hx2 := HXL.out (i + 1)
          generalize l.getD i 0 = x at *
          generalize l.getD (i + 1) 0 = x' at *
          clear HKK hnx
          generalize T k = st at *
          obtain ⟨he1, he2, he3, he4⟩ := hels
          have HNX := Lib.hid HN1
          clear HN1 hi
          have HA1 := Lib.hid (fun q => radd_any f st.a x (wr.drewN q) (by omega) hx)
          have hUl := addF_le f st.a x
          obtain ⟨U, hU⟩ : ∃ U, U = addF f st.a x := ⟨_, rfl⟩
          rw [← hU] at HA1 hUl
          have HU : Hid ((st.a + x) % pOf f = U) := by refine Lib.hid ?_; rw [hU, addF_pos _ _ _ hp]
          clear hU
          have s0 : wr.cell? ⟨S, 0, none⟩ = some (.int .u64 (st.a : Int)) := HS.out.at4 0 (by omega)
          have g0 := HS.out.free 0
          have l0 : (0 : Int) ≤ (i : Int) := by omega
          have l1 : (i : Int) < (n : Int) := by omega
          go_wp2_with fail
          refine region_quiet_tail 9 (by kernel_rfl) (by kernel_rfl) ?_
          simp only [List.take_succ_cons, List.take_zero, List.drop_succ_cons, List.drop_zero]
          repeat (quiet_step ((go_at_call 31; with_reducible exact quiet_of_drawn (HA1.out _))))
          refine wpQuiet_nil ?_
          intro _ hw'
          obtain ⟨nq, hw''⟩ := hw'
          subst hw''
          have hca2 : (wr.drewN nq).cell? ⟨S, 0, none⟩ = _ := s0
          have hfa2 : (wr.drewN nq).frozen? ⟨S, 0, none⟩ = false := g0
          go_upto_region 10 with fail
          have HS1 : Hid (Blk S ((wr.drewN nq).setCell ⟨S, 0, none⟩ (.int .u64 (U : Int))) (fl4 (ix ⟨U, st.b, st.c, st.d⟩))) := (((HS.out.drewN nq).put4 0 U (by omega)).eq (fl4_ext fun j hj => by rcases lt4 hj with rfl | rfl | rfl | rfl <;> rfl))
          have HDx := Lib.hid ((HD.out.drewN nq).other ⟨S, 0, none⟩ (by simp; omega) (.int .u64 (U : Int)))
          have HOx := Lib.hid ((HO.out.drewN nq).setCell (p := ⟨S, 0, none⟩) (by simp; omega) (.int .u64 (U : Int)))
          generalize hw3 : (wr.drewN nq).setCell ⟨S, 0, none⟩ (.int .u64 (U : Int)) = w3 at *
          clear hw3 hca2 hfa2 s0 g0 hcl HS HD HO HA1
          obtain ⟨j, hj⟩ : ∃ j, j = i + 1 := ⟨_, rfl⟩
          have hij : (i : Int) + 1 = (j : Int) := by omega
          rw [← hj] at HCL2 HG1
          have HJ := Lib.hid hj
          by_cases hl2 : j < n
          · have hc2 := HCL2.out hl2 w3 HOx.out
            have HA2 := Lib.hid (fun q => radd_any f st.b x' (w3.drewN q) (by omega) hx2)
            have hVl := addF_le f st.b x'
            obtain ⟨V, hV⟩ : ∃ V, V = addF f st.b x' := ⟨_, rfl⟩
            rw [← hV] at HA2 hVl
            have HUV : Hid ((st.b + x') % pOf f = V) := by refine Lib.hid ?_; rw [hV, addF_pos _ _ _ hp]
            clear hV
            have s1 : w3.cell? ⟨S, 1, none⟩ = some (.int .u64 (st.b : Int)) := HS1.out.at4 1 (by omega)
            have g1 := HS1.out.free 1
            have hwj : IntKind.i64.wrap (j : Int) = (j : Int) := IntWalk.i64_in _ (by omega)
            have l2 : (j : Int) < (n : Int) := by omega
            have l3 : (0 : Int) ≤ (j : Int) := by omega
            clear hj
            go_wp2_with fail
            refine region_quiet_tail 10 (by kernel_rfl) (by kernel_rfl) ?_
            simp only [List.take_succ_cons, List.take_zero, List.drop_succ_cons, List.drop_zero]
            repeat (quiet_step ((go_at_call 31; with_reducible exact quiet_of_drawn (HA2.out _))))
            refine wpQuiet_nil ?_
            intro _ hw'
            obtain ⟨nq, hw''⟩ := hw'
            subst hw''
            have hca2 : (w3.drewN nq).cell? ⟨S, 1, none⟩ = _ := s1
            have hfa2 : (w3.drewN nq).frozen? ⟨S, 1, none⟩ = false := g1
            go_upto_region 12 with fail
            have HSx : Hid (Blk S ((w3.drewN nq).setCell ⟨S, 1, none⟩ (.int .u64 (V : Int))) (fl4 (ix ⟨U, V, st.c, st.d⟩))) := (((HS1.out.drewN nq).put4 1 V (by omega)).eq (fl4_ext fun j hj => by rcases lt4 hj with rfl | rfl | rfl | rfl <;> rfl))
            have HDx2 := Lib.hid ((HDx.out.drewN nq).other ⟨S, 1, none⟩ (by simp; omega) (.int .u64 (V : Int)))
            have HOx2 := Lib.hid ((HOx.out.drewN nq).setCell (p := ⟨S, 1, none⟩) (by simp; omega) (.int .u64 (V : Int)))
            generalize hw4 : (w3.drewN nq).setCell ⟨S, 1, none⟩ (.int .u64 (V : Int)) = w4 at *
            clear hw4 hca2 hfa2 s1 g1 hc2 HS1 HDx HOx HA2
            have HDx := HDx2
            have HOx := HOx2
            clear HDx2 HOx2
            obtain ⟨y0, y1, y2, y3⟩ := HSx.out.cells4
            have HC : Hid (Calls Tryd.prog 18 #[.int .i64 f, .agg #[.int .u64 (U : Int), .int .u64 (V : Int), .int .u64 (st.c : Int), .int .u64 (st.d : Int)]] w4 fun e w' => e = .returned (.agg #[.int .u64 (nx.a : Int), .int .u64 (nx.b : Int), .int .u64 (nx.c : Int), .int .u64 (nx.d : Int)]) ∧ On w4 w') := by
              have h := rperm_any f ⟨U, V, st.c, st.d⟩ w4 HOx.out.tab ⟨by show U ≤ _; omega, by show V ≤ _; omega, by show st.c ≤ _; omega, by show st.d ≤ _; omega⟩
              rw [okS_yes HV.out] at h
              rw [show permS f ⟨U, V, st.c, st.d⟩ = nx from by rw [HNX.out, HU.out, HUV.out]] at h
              exact h
            go_wp2_with fail
            with_reducible refine HC.out.mono ?_
            rintro e w5 ⟨rfl, hO5⟩
            have HS5 := Lib.hid (HSx.out.on hO5)
            have HD5 := Lib.hid (HDx.out.on hO5)
            have HO5 := Lib.hid (HOx.out.trans hO5)
            clear hO5 HC y0 y1 y2 y3
            obtain ⟨y0, y1, y2, y3⟩ := HS5.out.cells4
            obtain ⟨g0, g1, g2, g3⟩ := HS5.out.free4
            go_wp2
            go_roundw
            case rel => exact ⟨k + 1, by have := HI.out; omega, by have := HI.out; congr 1; omega, by rw [HK.out]; exact HS5.out.store4 nx, HD5.out.other4 (by omega) _ _ _ _, HO5.out.store4 (by omega) _ _ _ _⟩
            case measure => simp [intOf]; omega
          · have l2 : ¬ (j : Int) < (n : Int) := by omega
            clear hj
            have HUV : Hid ((st.a + x) % pOf f = U ∧ (st.b + x') % pOf f = st.b) := ⟨HU.out, by rw [HG1.out (by omega), Nat.add_zero, Nat.mod_eq_of_lt he2]⟩
            have HSx := HS1
            clear HS1
            obtain ⟨y0, y1, y2, y3⟩ := HSx.out.cells4
            have HC : Hid (Calls Tryd.prog 18 #[.int .i64 f, .agg #[.int .u64 (U : Int), .int .u64 (st.b : Int), .int .u64 (st.c : Int), .int .u64 (st.d : Int)]] w3 fun e w' => e = .returned (.agg #[.int .u64 (nx.a : Int), .int .u64 (nx.b : Int), .int .u64 (nx.c : Int), .int .u64 (nx.d : Int)]) ∧ On w3 w') := by
              have h := rperm_any f ⟨U, st.b, st.c, st.d⟩ w3 HOx.out.tab ⟨by show U ≤ _; omega, by show st.b ≤ _; omega, by show st.c ≤ _; omega, by show st.d ≤ _; omega⟩
              rw [okS_yes HV.out] at h
              rw [show permS f ⟨U, st.b, st.c, st.d⟩ = nx from by rw [HNX.out, HUV.out.1, HUV.out.2]] at h
              exact h
            go_wp2_with fail
            with_reducible refine HC.out.mono ?_
            rintro e w5 ⟨rfl, hO5⟩
            have HS5 := Lib.hid (HSx.out.on hO5)
            have HD5 := Lib.hid (HDx.out.on hO5)
            have HO5 := Lib.hid (HOx.out.trans hO5)
            clear hO5 HC y0 y1 y2 y3
            obtain ⟨y0, y1, y2, y3⟩ := HS5.out.cells4
            obtain ⟨g0, g1, g2, g3⟩ := HS5.out.free4
            go_wp2
            go_roundw
            case rel => exact ⟨k + 1, by have := HI.out; omega, by have := HI.out; congr 1; omega, by rw [HK.out]; exact HS5.out.store4 nx, HD5.out.other4 (by omega) _ _ _ _, HO5.out.store4 (by omega) _ _ _ _⟩
            case measure => simp [intOf]; omega
        · obtain rfl : k = (n + 1) / 2 := by omega
          have l2 : ¬ (i : Int) < (n : Int) := by omega
          rw [HZZ.out] at HS
          have HF2 := HS.out
          clear hi
          obtain ⟨c0, c1, c2, c3⟩ := HF2.cells4
          obtain ⟨r0, r1⟩ := HD.out.cells2
          have f0 := HD.out.free 0
          have f1 := HD.out.free 1
          have HP := Lib.hid (Blk.cells2 (HD.out.store2 z.a z.b))
          go_wp2
          obtain ⟨p0, p1⟩ := HP.out
          refine bodyPost_ret (v := .agg #[.int .u64 (z.a : Int), .int .u64 (z.b : Int)]) (by simp [results, Tryd.results22, go_sem, p0, p1]; try rfl) rfl ?_
          exact ⟨by rw [HZ.out], HO.out.store2 (by omega) _ _⟩
end Go.Proofs.YtbmieoedpgdlpaaDoor
