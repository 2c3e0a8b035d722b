/- The document's own answers for polynomials: Normal, coefficient, Scale, Add, Sub, Eval: what each call returns. -/
import Derived.Test.YtiipgbobgeejmaaDoorKwTref1
import Derived.Test.YtiipgbobgeejmaaDoorKb11
import Derived.Test.YtiipgbobgeejmaaDoorKb05
import Derived.Test.YtiipgbobgeejmaaDoorKb03
import Derived.Test.YtiipgbobgeejmaaDoorKb04
import Derived.BigQuiet
/- The document's own answers for polynomials: Normal, coefficient, Scale, Add, Sub, Eval: what each call returns. -/
namespace Go.Proofs.YtiipgbobgeejmaaDoor
open Go.RowKit
set_option linter.unusedVariables false

theorem take_map_snoc (g : Nat → Nat) (l : List Nat) (k : Nat) (h : k < l.length) : (l.take k).map g ++ [g (l.getD k 0)] = (l.take (k + 1)).map g := by
  rw [take_snoc l k h, List.map_append]; rfl
theorem Ow.shorter {B : Nat} {w : World} {v : Value} {l : List Nat} {a : Option Addr} {n c : Nat} (h : Ow B w (.slice a n c) l) (k : Nat) (hk : k ≤ l.length) : Ow B w (.slice a k c) (l.take k) := by
  have hkl : (l.take k).length = k := by rw [List.length_take]; omega
  rcases h.cases with ⟨rfl, e⟩ | ⟨g, cap, e, hb, hR⟩
  · simp only [Value.slice.injEq] at e
    obtain ⟨rfl, rfl, rfl⟩ := e
    obtain rfl : k = 0 := by simpa using hk
    exact Ow.nil _ _
  · simp only [Value.slice.injEq] at e
    obtain ⟨rfl, rfl, rfl⟩ := e
    obtain ⟨cur, hg, h1, h2, h3, h4⟩ := hR.cur
    have := Ow.of_row (B := B) (Row.mk (l := l.take k) hg (by rw [hkl]; omega) h2 h3 (by
      have e1 : cur.toList.take (l.take k).length = (cur.toList.take l.length).take k := by rw [List.take_take, hkl, Nat.min_eq_left hk]
      rw [e1, h4]; unfold nums; rw [List.map_take])) hb
    rw [hkl] at this
    exact this
theorem ow_cap {B : Nat} {w : World} {a : Option Addr} {n c : Nat} {l : List Nat} (h : Ow B w (.slice a n c) l) : n = l.length ∧ n ≤ c ∧ c ≤ 9223372036854775807 := by
  rcases h.cases with ⟨rfl, e⟩ | ⟨g, cap, e, hb, hR⟩
  · simp only [Value.slice.injEq] at e
    obtain ⟨rfl, rfl, rfl⟩ := e
    simp
  · simp only [Value.slice.injEq] at e
    obtain ⟨rfl, rfl, rfl⟩ := e
    exact ⟨rfl, hR.lt.1, hR.lt.2⟩

set_option maxHeartbeats 1000000 in
theorem rnorm_any (f : Int) (l : List Nat) (v : Value) (w : World) (hT : Tab w) (hR : Reads w v l) (hl : l.length ≤ 1000) :
    Calls Tryd.prog 26 #[.int .i64 f, v] w fun e w' => (∃ u, e = .returned u ∧ Ow w.heap.size w' u (normF f l)) ∧ On w w' := by
  cases hv : validB f
  · have HZ := Lib.hid (normF_none f l ((pOf_zero_iff f).2 hv))
    have HV := Lib.hid hv; clear hv
    go_enter Tryd.func26, Tryd.ntmps26
    go_wp2_with (go_at_call 33; refine (rvalid_any _ _).mono ?_; rintro e w' ⟨rfl, rfl⟩; rw [HV.out])
    go_ret
    exact ⟨⟨_, rfl, by rw [HZ.out]; exact Ow.nil _ _⟩, On.refl hT⟩
  · have HV := Lib.hid hv; clear hv
    obtain ⟨a, cap, rfl⟩ := hR.shape
    have HR := Lib.hid hR; have H0 := Lib.hid (On.refl hT)
    obtain ⟨M, hM⟩ : ∃ M, M = l.map (redF f) := ⟨_, rfl⟩
    have HML : Hid (M.length = l.length) := by unfold Hid; rw [hM]; simp
    have HN : Hid (normF f l = strip M) := by unfold Hid; rw [hM]; rfl
    have HS : Hid (∀ k, k < l.length → M.take k ++ [redF f (l.getD k 0)] = M.take (k + 1)) := fun k hk => by rw [hM, ← List.map_take, ← List.map_take]; exact take_map_snoc _ _ _ hk
    have HB : Hid (∀ x ∈ M, x ≤ 18446744073709551615) := fun x hx => by
      rw [hM] at hx
      obtain ⟨y, _, rfl⟩ := List.mem_map.1 hx
      have := redF_le f y; omega
    clear hR hT hM
    generalize hn : l.length = n at *
    have HNL := Lib.hid hn; clear hn
    go_enter Tryd.func26, Tryd.ntmps26
    go_wp2_with (go_at_call 33; refine (rvalid_any _ _).mono ?_; rintro e w' ⟨rfl, rfl⟩; rw [HV.out])
    go_loopw [5, 6] (fun vo vi wr => ∃ (k : Nat) (ao : Option Addr) (co : Nat), k ≤ n ∧ vi = .int .i64 (k : Int) ∧ vo = .slice ao k co ∧ Hid (On w wr ∧ Ow w.heap.size wr (.slice ao k co) (M.take k))) (fun _ vi _ => n - (intOf vi).toNat)
    case atStart => exact ⟨0, none, 0, Nat.zero_le _, rfl, rfl, H0.out, Ow.nil _ _⟩
    case round =>
      rename World => wr
      obtain ⟨k, ao, co, hk, rfl, rfl, HI⟩ := hrel
      by_cases hlt : k < n
      · obtain ⟨-, hcx⟩ := reads_opt (HR.out.on HI.out.1)
        obtain ⟨bX, oX, rfl, hcell⟩ := hcx k (by rw [HNL.out]; exact hlt)
        have hxb := HR.out.1 _ (getD_mem l k (by rw [HNL.out]; exact hlt))
        have HSK := Lib.hid (HS.out k hlt)
        clear hcx
        generalize l.getD k 0 = x at *
        go_wp2_with fail
        refine (rreduce_any f x _ hxb).mono ?_
        rintro e w' ⟨rfl, q, rfl⟩
        obtain ⟨v', w3, hrun, ho, hg, -⟩ := append_own w.heap.size (redF f x) _ rfl _ _ (wr.drewN q) _ rfl (HI.out.2.drewN q) (by have := HI.out.1.size; simpa using this) (by rw [List.length_take]; omega)
        obtain ⟨av2, cv2, rfl⟩ := ho.shape
        rw [HSK.out] at ho
        have hll : (M.take k ++ [redF f x]).length = k + 1 := by rw [HSK.out, List.length_take, HML.out]; omega
        rw [HSK.out] at hll hrun
        rw [hll] at hrun ho
        have HRUN := Lib.hid hrun; have HOO := Lib.hid ho
        have HON2 := Lib.hid ((HI.out.1.drewN q).grown (Nat.le_refl _) (HI.out.2.drewN q) hg)
        clear hrun ho hg hll
        go_wp2_with (at_builtin; refine wp_append2 rfl (.tmp 18) (.tmp 25) _ _ rfl _ _ _ rfl rfl HRUN.out ?_)
        go_roundw
        case rel => exact ⟨k + 1, av2, cv2, by omega, by go_num, rfl, HON2.out, HOO.out⟩
        case measure => simp [intOf]; omega
      · obtain rfl : k = n := by omega
        have hw2 := HI.out.2
        rw [List.take_of_length_le (by rw [HML.out]; exact Nat.le_refl _)] at hw2
        have HOW := Lib.hid hw2
        have HON := Lib.hid HI.out.1
        obtain ⟨-, hkc, hcm⟩ := ow_cap hw2
        clear hw2 HI
        go_wp2_with fail
        go_loop [7] (fun vj => ∃ j : Nat, vj = .int .i64 (j : Int) ∧ j ≤ k ∧ Hid (strip (M.take j) = strip M)) (fun vj => (intOf vj).toNat)
        case atStart => exact ⟨k, rfl, Nat.le_refl _, by unfold Hid; rw [List.take_of_length_le (by rw [HML.out]; exact Nat.le_refl _)]⟩
        case round =>
          obtain ⟨j, rfl, hj, HK⟩ := hrel
          have fin : ∀ j, j ≤ k → strip M = M.take j → Ow w.heap.size wr (.slice ao j co) (normF f l) := fun j hj h => by
            rw [HN.out, h]
            exact Ow.shorter (v := .slice ao k co) HOW.out j (by rw [HML.out]; exact hj)
          have HFIN := Lib.hid fin; clear fin
          cases j with
          | zero =>
            have HZ : Hid (strip M = M.take 0) := by unfold Hid; rw [← HK.out]; rfl
            go_wp2
            go_ret
            exact ⟨⟨_, rfl, HFIN.out 0 (by omega) HZ.out⟩, HON.out⟩
          | succ j =>
            obtain ⟨-, hcx⟩ := reads_opt (HOW.out.reads HB.out)
            obtain ⟨bX, oX, rfl, hcell⟩ := hcx j (by rw [HML.out]; omega)
            have hki : ((j + 1 : Nat) : Int) - 1 = (j : Int) := by omega
            clear hcx
            by_cases hd : M.getD j 0 = 0
            · have HX : Hid (strip (M.take j) = strip M) := by unfold Hid; rw [← HK.out, strip_take_zero M j (by rw [HML.out]; omega) hd]
              rw [hd] at hcell
              clear hd
              go_wp2
              go_round
              case rel => exact ⟨j, by go_num, by omega, HX⟩
              case measure => simp [intOf]
            · have HX : Hid (strip M = M.take (j + 1)) := by unfold Hid; rw [← HK.out, strip_take_len M j (by rw [HML.out]; omega) hd]
              have hd0 : (((M.getD j 0 : Nat) : Int) == 0) = false := by simp only [beq_eq_false_iff_ne, ne_eq]; omega
              clear hd
              generalize M.getD j 0 = y at *
              go_wp2
              go_ret
              exact ⟨⟨_, rfl, HFIN.out (j + 1) (by omega) HX.out⟩, HON.out⟩
theorem rcoef_any (l : List Nat) (i : Nat) (v : Value) (w : World) (hR : Reads w v l) (hi : i ≤ 1000000) :
    Calls Tryd.prog 89 #[v, .int .i64 (i : Int)] w fun e w' => e = .returned (.int .u64 ((l.getD i 0 : Nat) : Int)) ∧ w = w' := by
  obtain ⟨a, cap, rfl⟩ := hR.shape
  by_cases h : i < l.length
  · obtain ⟨-, hcx⟩ := reads_opt hR
    obtain ⟨bX, oX, rfl, hcell⟩ := hcx i h
    have hb := hR.1 _ (getD_mem l i h)
    clear hcx hR
    generalize l.getD i 0 = x at *
    generalize l.length = n at *
    go_enter Tryd.func89, Tryd.ntmps89
    go_wp2
    go_ret
    exact ⟨rfl, rfl⟩
  · rw [getD_over (by omega)]
    clear hR
    generalize l.length = n at *
    go_enter Tryd.func89, Tryd.ntmps89
    go_wp2
    go_ret
    exact ⟨rfl, rfl⟩
end Go.Proofs.YtiipgbobgeejmaaDoor

/- The document's own answers for polynomials: Scale, Add, Eval: what each call returns. -/
namespace Go.Proofs.YtiipgbobgeejmaaDoor
open Go.RowKit
set_option linter.unusedVariables false

theorem E_snoc (c x : Nat) : ∀ l : List Nat, E (l ++ [c]) x = E l x + c * x ^ l.length := by
  intro l
  induction l with
  | nil => show c + x * 0 = 0 + c * x ^ 0; simp
  | cons d l ih =>
    show d + x * E (l ++ [c]) x = d + x * E l x + c * x ^ (l.length + 1)
    rw [ih, Nat.pow_succ, Nat.mul_add, Nat.add_assoc]; congr 2; ac_rfl

set_option maxHeartbeats 1000000 in
theorem rscale_any (f : Int) (l : List Nat) (s : Nat) (v : Value) (w : World) (hT : Tab w) (hR : Reads w v l) (hl : l.length ≤ 1000) (hs : s ≤ 18446744073709551615) :
    Calls Tryd.prog 59 #[.int .i64 f, v, .int .u64 (s : Int)] w fun e w' => (∃ u, e = .returned u ∧ Ow w.heap.size w' u (scaleF f l s)) ∧ On w w' := by
  obtain ⟨a, cap, rfl⟩ := hR.shape
  have HR := Lib.hid hR; have H0 := Lib.hid (On.refl hT)
  obtain ⟨M, hM⟩ : ∃ M, M = l.map (fun x => mulF f x s) := ⟨_, rfl⟩
  have HML : Hid (M.length = l.length) := by unfold Hid; rw [hM]; simp
  have HN : Hid (normF f M = scaleF f l s) := by unfold Hid; rw [hM]; rfl
  have HS : Hid (∀ k, k < l.length → M.take k ++ [mulF f (l.getD k 0) s] = M.take (k + 1)) := fun k hk => by rw [hM, ← List.map_take, ← List.map_take]; exact take_map_snoc (fun x => mulF f x s) _ _ hk
  have HB : Hid (∀ x ∈ M, x ≤ 18446744073709551615) := fun x hx => by
    rw [hM] at hx
    obtain ⟨y, _, rfl⟩ := List.mem_map.1 hx
    have := mulF_le f y s; omega
  clear hR hT hM
  generalize hn : l.length = n at *
  have HNL := Lib.hid hn; clear hn
  go_enter Tryd.func59, Tryd.ntmps59
  go_wp2_with fail
  go_loopw [7, 8] (fun vo vi wr => ∃ (k : Nat) (ao : Option Addr) (co : Nat), k ≤ n ∧ vi = .int .i64 (k : Int) ∧ vo = .slice ao k co ∧ Hid (On w wr ∧ Ow w.heap.size wr (.slice ao k co) (M.take k))) (fun _ vi _ => n - (intOf vi).toNat)
  case atStart => exact ⟨0, none, 0, Nat.zero_le _, rfl, rfl, H0.out, Ow.nil _ _⟩
  case round =>
    rename World => wr
    obtain ⟨k, ao, co, hk, rfl, rfl, HI⟩ := hrel
    by_cases hlt : k < n
    · obtain ⟨-, hcx⟩ := reads_opt (HR.out.on HI.out.1)
      obtain ⟨bX, oX, rfl, hcell⟩ := hcx k (by rw [HNL.out]; exact hlt)
      have hxb := HR.out.1 _ (getD_mem l k (by rw [HNL.out]; exact hlt))
      have HSK := Lib.hid (HS.out k hlt)
      clear hcx
      generalize l.getD k 0 = x at *
      go_wp2_with fail
      refine (rmul_any f x s _ hxb hs).mono ?_
      rintro e w' ⟨rfl, q, rfl⟩
      obtain ⟨v', w3, hrun, ho, hg, -⟩ := append_own w.heap.size (mulF f x s) _ rfl _ _ (wr.drewN q) _ rfl (HI.out.2.drewN q) (by have := HI.out.1.size; simpa using this) (by rw [List.length_take]; omega)
      obtain ⟨av2, cv2, rfl⟩ := ho.shape
      rw [HSK.out] at ho
      have hll : (M.take k ++ [mulF f x s]).length = k + 1 := by rw [HSK.out, List.length_take, HML.out]; omega
      rw [HSK.out] at hll hrun
      rw [hll] at hrun ho
      have HRUN := Lib.hid hrun; have HOO := Lib.hid ho
      have HON2 := Lib.hid ((HI.out.1.drewN q).grown (Nat.le_refl _) (HI.out.2.drewN q) hg)
      clear hrun ho hg hll
      go_wp2_with (at_builtin; refine wp_append2 rfl (.tmp 15) (.tmp 23) _ _ rfl _ _ _ rfl rfl HRUN.out ?_)
      go_roundw
      case rel => exact ⟨k + 1, av2, cv2, by omega, by go_num, rfl, HON2.out, HOO.out⟩
      case measure => simp [intOf]; omega
    · obtain rfl : k = n := by omega
      have hw2 := HI.out.2
      rw [List.take_of_length_le (by rw [HML.out]; exact Nat.le_refl _)] at hw2
      have HOW := Lib.hid hw2
      have HON := Lib.hid HI.out.1
      clear hw2 HI
      go_wp2_with fail
      refine (rnorm_any f M _ wr HON.out.tab (HOW.out.reads HB.out) (by rw [HML.out]; omega)).mono ?_
      rintro e w' ⟨⟨u, rfl, hu⟩, hO1⟩
      rw [HN.out] at hu
      have HU : Hid (Ow w.heap.size w' u (scaleF f l s)) := by
        have hs := HON.out.size
        rcases hu.cases with ⟨e1, rfl⟩ | ⟨g, c, rfl, hb, hR⟩
        · unfold Hid; rw [e1]; exact Ow.nil _ _
        · exact Ow.of_row hR (by omega)
      have HO := Lib.hid (HON.out.trans hO1)
      clear hu hO1
      go_wp2
      go_ret
      exact ⟨⟨_, rfl, HU.out⟩, HO.out⟩
theorem Ow.mono {B C : Nat} {w : World} {v : Value} {l : List Nat} (h : Ow B w v l) (k : C ≤ B) : Ow C w v l := by
  rcases h.cases with ⟨rfl, rfl⟩ | ⟨g, c, rfl, hb, hR⟩
  · exact Ow.nil _ _
  · exact Ow.of_row hR (by omega)
set_option maxHeartbeats 1000000 in
theorem raddp_any (f : Int) (l m : List Nat) (v v' : Value) (w : World) (hT : Tab w) (hR : Reads w v l) (hR' : Reads w v' m) (hl : l.length ≤ 1000) (hm : m.length ≤ 1000) :
    Calls Tryd.prog 58 #[.int .i64 f, v, v'] w fun e w' => (∃ u, e = .returned u ∧ Ow w.heap.size w' u (addL f l m)) ∧ On w w' := by
  obtain ⟨a, cap, rfl⟩ := hR.shape
  obtain ⟨a', cap', rfl⟩ := hR'.shape
  have HR := Lib.hid hR; have HR' := Lib.hid hR'; have H0 := Lib.hid (On.refl hT)
  obtain ⟨N, hN⟩ : ∃ N, N = max l.length m.length := ⟨_, rfl⟩
  have HND : Hid (addL f l m = normF f ((List.range N).map fun i => addF f (l.getD i 0) (m.getD i 0))) := by unfold Hid; rw [hN]; rfl
  have hNb : N ≤ 1000 := by omega
  have hNl : l.length ≤ N := by omega
  have hNm : m.length ≤ N := by omega
  have HNX : Hid (∀ k, k < N → k < l.length ∨ k < m.length) := fun k hk => by omega
  have HS : Hid (∀ k, (List.range k).map (fun i => addF f (l.getD i 0) (m.getD i 0)) ++ [addF f (l.getD k 0) (m.getD k 0)] = (List.range (k + 1)).map fun i => addF f (l.getD i 0) (m.getD i 0)) := fun k => by rw [List.range_succ, List.map_append]; rfl
  have HB : Hid (∀ k, ∀ x ∈ (List.range k).map (fun i => addF f (l.getD i 0) (m.getD i 0)), x ≤ 18446744073709551615) := fun k x hx => by
    obtain ⟨y, _, rfl⟩ := List.mem_map.1 hx
    have := addF_le f (l.getD y 0) (m.getD y 0); omega
  have HBL := Lib.hid (bdL l hR.1); have HBM := Lib.hid (bdL m hR'.1)
  clear hR hR' hT hN
  generalize hn : l.length = n at *
  have HNL := Lib.hid hn; clear hn
  generalize hn2 : m.length = n2 at *
  have HNL2 := Lib.hid hn2; clear hn2
  go_enter Tryd.func58, Tryd.ntmps58
  go_wp2_with fail
  go_loopw [7, 8] (fun vo vi wr => ∃ (k : Nat) (ao : Option Addr) (co : Nat), k ≤ N ∧ vi = .int .i64 (k : Int) ∧ vo = .slice ao k co ∧ Hid (On w wr ∧ Ow w.heap.size wr (.slice ao k co) ((List.range k).map fun i => addF f (l.getD i 0) (m.getD i 0)))) (fun _ vi _ => N - (intOf vi).toNat)
  case atStart => exact ⟨0, none, 0, Nat.zero_le _, rfl, rfl, H0.out, Ow.nil _ _⟩
  case round =>
    rename World => wr
    obtain ⟨k, ao, co, hk, rfl, rfl, HI⟩ := hrel
    by_cases hlt : k < N
    · have hor := HNX.out k hlt
      have HC1 := Lib.hid (rcoef_any l k _ wr (HR.out.on HI.out.1) (by omega))
      have HC2 := Lib.hid (rcoef_any m k _ wr (HR'.out.on HI.out.1) (by omega))
      have hb1 := HBL.out k; have hb2 := HBM.out k
      have HSK := Lib.hid (HS.out k)
      generalize hx : l.getD k 0 = x at *
      generalize hy : m.getD k 0 = y at *
      have HXX := Lib.hid hx; have HYY := Lib.hid hy
      clear hx hy
      have go : k < n ∨ (¬ k < n ∧ k < n2) := by omega
      clear hor
      rcases go with h1 | ⟨h1, h2⟩
      all_goals
        go_wp2_with fail
        refine HC1.out.mono ?_
        rintro e w' ⟨rfl, rfl⟩
        go_wp2_with fail
        refine HC2.out.mono ?_
        rintro e w' ⟨rfl, rfl⟩
        go_wp2_with fail
        refine (radd_any f x y _ hb1 hb2).mono ?_
        rintro e w' ⟨rfl, q, rfl⟩
        obtain ⟨v', w3, hrun, ho, hg, -⟩ := append_own w.heap.size (addF f x y) _ rfl _ _ (wr.drewN q) _ rfl (HI.out.2.drewN q) (by have := HI.out.1.size; simpa using this) (by simp; omega)
        obtain ⟨av2, cv2, rfl⟩ := ho.shape
        rw [HSK.out] at ho
        have hll : ((List.range (k + 1)).map fun i => addF f (l.getD i 0) (m.getD i 0)).length = k + 1 := by simp
        rw [HSK.out] at hrun
        rw [hll] at hrun ho
        have HRUN := Lib.hid hrun; have HOO := Lib.hid ho
        have HON2 := Lib.hid ((HI.out.1.drewN q).grown (Nat.le_refl _) (HI.out.2.drewN q) hg)
        clear hrun ho hg hll
        go_wp2_with (at_builtin; refine wp_append2 rfl (.tmp 21) (.tmp 30) _ _ rfl _ _ _ rfl rfl HRUN.out ?_)
        go_roundw
        case rel => exact ⟨k + 1, av2, cv2, by omega, by go_num, rfl, HON2.out, HOO.out⟩
        case measure => simp [intOf]; omega
    · obtain rfl : k = N := by omega
      have HOW := Lib.hid HI.out.2
      have HON := Lib.hid HI.out.1
      have h1 : ¬ k < n := by omega
      have h2 : ¬ k < n2 := by omega
      clear HI
      go_wp2_with fail
      refine (rnorm_any f _ _ wr HON.out.tab (HOW.out.reads (HB.out k)) (by simp; omega)).mono ?_
      rintro e w' ⟨⟨u, rfl, hu⟩, hO1⟩
      rw [← HND.out] at hu
      have HU := Lib.hid (hu.mono HON.out.size)
      have HO := Lib.hid (HON.out.trans hO1)
      clear hu hO1
      go_wp2
      go_ret
      exact ⟨⟨_, rfl, HU.out⟩, HO.out⟩
theorem reval_step (f : Int) (l : List Nat) (x k : Nat) (hk : k < l.length) : addF f (evF f (l.take k) x) (mulF f (l.getD k 0) (powC f x k)) = evF f (l.take (k + 1)) x := by
  rcases Nat.eq_zero_or_pos (pOf f) with hp | hp
  · rw [evF_zero _ _ hp, addF_zero _ _ _ hp, evF_zero _ _ hp]
  · rw [take_snoc l k hk, evF_pos _ _ hp, evF_pos _ _ hp, addF_modL, E_snoc, List.length_take, Nat.min_eq_left (Nat.le_of_lt hk), addF_pos _ _ _ hp, mulF_pos _ _ _ hp, Nat.add_mod_mod]
    unfold powC
    by_cases h : k = 0
    · rw [if_pos h, h, Nat.pow_zero]
    · rw [if_neg h, powF_pos _ _ _ hp, Nat.add_mod, Nat.mul_mod_mod, ← Nat.add_mod]
set_option maxHeartbeats 1000000 in
theorem reval_any (f : Int) (l : List Nat) (x : Nat) (v : Value) (w : World) (hR : Reads w v l) (hx : x ≤ 18446744073709551615) :
    Calls Tryd.prog 21 #[.int .i64 f, v, .int .u64 (x : Int)] w fun e w' => e = .returned (.int .u64 ((evF f l x : Nat) : Int)) ∧ ∃ k, w' = w.drewN k := by
  obtain ⟨a, cap, rfl⟩ := hR.shape
  have hlb := hR.2.1
  have HR := Lib.hid hR
  have HS := Lib.hid (reval_step f l x)
  have HE0 : Hid (evF f (l.take 0) x = 0) := by unfold Hid evF; split; rfl; show 0 % _ = 0; simp
  have HFN : Hid (l.take l.length = l) := List.take_length
  clear hR
  generalize hn : l.length = n at *
  have HNL := Lib.hid hn; clear hn
  go_enter Tryd.func21, Tryd.ntmps21
  go_wp2_with fail
  go_loopw [7, 8, 9] (fun vs vp vi wr => ∃ k q : Nat, k ≤ n ∧ vi = .int .i64 (k : Int) ∧ vp = .int .u64 ((powC f x k : Nat) : Int) ∧ vs = .int .u64 ((evF f (l.take k) x : Nat) : Int) ∧ Hid (wr = w.drewN q)) (fun _ _ vi _ => n - (intOf vi).toNat)
  case atStart => exact ⟨0, 0, Nat.zero_le _, rfl, rfl, by rw [HE0.out]; rfl, rfl⟩
  case round =>
    rename World => wr
    obtain ⟨k, q, hk, rfl, rfl, rfl, HW⟩ := hrel
    by_cases hlt : k < n
    · have hrd : Reads wr (.slice a n cap) l := by rw [HW.out]; exact HR.out.drewN q
      obtain ⟨-, hcx⟩ := reads_opt hrd
      obtain ⟨bX, oX, rfl, hcell⟩ := hcx k (by rw [HNL.out]; exact hlt)
      have hxb := hrd.1 _ (getD_mem l k (by rw [HNL.out]; exact hlt))
      have HSK := Lib.hid (HS.out k hlt)
      have hpc := powC_le f x k; have HPC := Lib.hid (powC_succ f x k)
      have hev := evF_le f (l.take k) x
      clear hcx hrd
      generalize l.getD k 0 = y at *
      generalize hE : evF f (l.take k) x = Ek at *
      have HE := Lib.hid hE; clear hE
      generalize hP : powC f x k = Pk at *
      have HP := Lib.hid hP; clear hP
      have hmu := mulF_le f y Pk
      go_wp2_with fail
      refine (rmul_any f y Pk _ hxb (by omega)).mono ?_
      rintro e w' ⟨rfl, q1, rfl⟩
      go_wp2_with fail
      refine (radd_any f Ek (mulF f y Pk) _ (by omega) (by omega)).mono ?_
      rintro e w' ⟨rfl, q2, rfl⟩
      go_wp2_with fail
      refine (rmul_any f Pk x _ (by omega) hx).mono ?_
      rintro e w' ⟨rfl, q3, rfl⟩
      go_wp2_with fail
      go_roundw
      case rel => exact ⟨k + 1, q + q1 + q2 + q3, by omega, by go_num, by rw [HPC.out], by rw [HSK.out], by unfold Hid; rw [HW.out]; simp only [World.drewN_drewN]; congr 1; omega⟩
      case measure => simp [intOf]; omega
    · obtain rfl : k = n := by omega
      rw [HFN.out]
      go_wp2
      go_ret
      exact ⟨rfl, q, HW.out⟩
end Go.Proofs.YtiipgbobgeejmaaDoor

/- The document's own answers for polynomials: Mul: what each call returns. -/
namespace Go.Proofs.YtiipgbobgeejmaaDoor
open Go.RowKit
set_option linter.unusedVariables false

def pg (a b : List Nat) (t i : Nat) : Nat := if i ≤ t then a.getD i 0 * b.getD (t - i) 0 else 0
theorem pg_all (a b : List Nat) (t : Nat) : S (pg a b t) a.length = conv a b t := by
  have h1 : S (pg a b t) (max a.length (t + 1)) = S (pg a b t) a.length := S_tail (by omega) fun i hi _ => by
    unfold pg; rw [getD_over hi]; split <;> simp
  have h2 : S (pg a b t) (max a.length (t + 1)) = S (pg a b t) (t + 1) := S_tail (by omega) fun i hi _ => by
    unfold pg; rw [if_neg (by omega)]
  rw [← h1, h2]
  exact S_ext fun i hi => by unfold pg; rw [if_pos (by omega)]
/-- The first i rows of products are summed, and k products of the next one. -/
def Pm (p N : Nat) (a b : List Nat) (i k : Nat) (o : List Nat) : Prop :=
  o.length = N ∧ ∀ t, t < N → o.getD t 0 = (S (pg a b t) i + (if i ≤ t ∧ t < i + k then a.getD i 0 * b.getD (t - i) 0 else 0)) % p
theorem Pm.start (p N : Nat) (a b : List Nat) : Pm p N a b 0 0 (List.replicate N 0) :=
  ⟨by simp, fun t _ => by rw [replicate_getD, if_neg (by omega)]; unfold S; simp⟩
theorem Pm.step {f : Int} {N : Nat} {a b : List Nat} {i k : Nat} {o : List Nat} (hp : 0 < pOf f) (h : Pm (pOf f) N a b i k o) (ht : i + k < N) : Pm (pOf f) N a b i (k + 1) (o.set (i + k) (addF f (o.getD (i + k) 0) (mulF f (a.getD i 0) (b.getD k 0)))) := by
  refine ⟨by rw [List.length_set]; exact h.1, fun t ht2 => ?_⟩
  rw [getD_set1 _ _ _ _ (by rw [h.1]; exact ht)]
  by_cases e : t = i + k
  · subst e
    rw [if_pos rfl, h.2 _ ht, if_neg (by omega), if_pos (by omega), Nat.add_sub_cancel_left, Nat.add_zero, addF_pos _ _ _ hp, mulF_pos _ _ _ hp, ← Nat.add_mod]
  · rw [if_neg e, h.2 t ht2]
    by_cases c : i ≤ t ∧ t < i + k
    · rw [if_pos c, if_pos (by omega)]
    · rw [if_neg c, if_neg (by omega)]
theorem Pm.next {p N : Nat} {a b : List Nat} {i : Nat} {o : List Nat} (h : Pm p N a b i b.length o) : Pm p N a b (i + 1) 0 o := by
  refine ⟨h.1, fun t ht => ?_⟩
  rw [h.2 t ht, if_neg (c := i + 1 ≤ t ∧ t < i + 1 + 0) (by omega), Nat.add_zero]
  show _ = (S (pg a b t) i + pg a b t i) % p
  unfold pg
  by_cases c : i ≤ t
  · rw [if_pos c]
    by_cases c2 : t < i + b.length
    · rw [if_pos ⟨c, c2⟩]
    · rw [if_neg (by omega), getD_over (l := b) (by omega)]; simp
  · rw [if_neg c, if_neg (by omega)]
theorem Pm.done {f : Int} {l m : List Nat} {o : List Nat} (hl : 0 < (normF f l).length) (hm : 0 < (normF f m).length) (h : Pm (pOf f) ((normF f l).length + (normF f m).length - 1) (normF f l) (normF f m) (normF f l).length 0 o) : o = mulL f l m := by
  unfold mulL
  rw [if_neg (by omega)]
  refine list_ext (by rw [h.1]; simp) fun t ht => ?_
  rw [h.1] at ht
  rw [h.2 t ht, if_neg (by omega), Nat.add_zero, pg_all, getD_range, if_pos ht]

set_option maxRecDepth 100000 in
set_option maxHeartbeats 2000000 in
theorem rmulp_any (f : Int) (l m : List Nat) (v v' : Value) (w : World) (hT : Tab w) (hv : validB f = true) (hR : Reads w v l) (hR' : Reads w v' m) (hl : l.length ≤ 1000) (hm : m.length ≤ 1000) :
    Calls Tryd.prog 87 #[.int .i64 f, v, v'] w fun e w' => (∃ u, e = .returned (.tuple #[u, .int .i64 0]) ∧ Fre w.heap.size w' u (mulL f l m)) ∧ On w w' := by
  have hp := (valid_iff f).1 hv
  have HV := Lib.hid hv; clear hv
  have HR' := Lib.hid hR'
  have H0 := Lib.hid (On.refl hT)
  have HN1 := Lib.hid (rnorm_any f l v w hT hR hl)
  clear hR hR'
  have hAl := normF_len f l
  have hBl := normF_len f m
  have HZ : Hid ((normF f l).length = 0 ∨ (normF f m).length = 0 → mulL f l m = []) := fun h => by unfold mulL; rw [if_pos h]
  have HDN : Hid (∀ o, 0 < (normF f l).length → 0 < (normF f m).length → Pm (pOf f) ((normF f l).length + (normF f m).length - 1) (normF f l) (normF f m) (normF f l).length 0 o → o = mulL f l m) := fun o h1 h2 h => Pm.done h1 h2 h
  have HNM : Hid (∀ w', On w w' → _) := fun w' hw => rnorm_any f m v' w' hw.tab (HR'.out.on hw) hm
  have HUA : Hid (∀ x ∈ normF f l, x ≤ 998244353) := normF_le f l
  have HUB : Hid (∀ x ∈ normF f m, x ≤ 998244353) := normF_le f m
  generalize normF f l = A at *
  generalize normF f m = B at *
  go_enter Tryd.func87, Tryd.ntmps87
  go_wp2_with (go_at_call 33; refine (rvalid_any _ _).mono ?_; rintro e w' ⟨rfl, rfl⟩; rw [HV.out])
  refine HN1.out.mono ?_
  rintro e w1 ⟨⟨u1, rfl, hu1⟩, hO1⟩
  have HO := Lib.hid hO1; have HA := Lib.hid hu1
  clear hO1 hu1 HN1
  go_wp2_with fail
  refine (HNM.out w1 HO.out).mono ?_
  rintro e w2 ⟨⟨u2, rfl, hu2⟩, hO1⟩
  have HA := Lib.hid (HA.out.on hO1)
  have HB := Lib.hid (hu2.mono (C := w.heap.size) HO.out.size)
  have HO := Lib.hid (HO.out.trans hO1)
  clear hO1 hu2 HNM
  obtain ⟨a1, c1, rfl⟩ := HA.out.shape
  obtain ⟨a2, c2, rfl⟩ := HB.out.shape
  have HRA := Lib.hid (HA.out.reads fun x hx => by have := HUA.out x hx; omega)
  have HRB := Lib.hid (HB.out.reads fun x hx => by have := HUB.out x hx; omega)
  obtain ⟨na, hna⟩ : ∃ na, A.length = na := ⟨_, rfl⟩
  obtain ⟨nb, hnb⟩ : ∃ nb, B.length = nb := ⟨_, rfl⟩
  rw [hna] at HZ HDN HRA hAl ⊢
  rw [hnb] at HZ HDN HRB hBl ⊢
  have HNA := Lib.hid hna; have HNB := Lib.hid hnb
  clear hna hnb HA HB
  by_cases h1 : na = 0
  · have HM := Lib.hid (HZ.out (.inl h1))
    subst h1
    go_wp2
    go_ret2
    exact ⟨⟨_, rfl, by rw [HM.out]; exact Fre.nil _ _⟩, HO.out⟩
  · have h1b : (((na : Nat) : Int) == 0) = false := by simp only [beq_eq_false_iff_ne, ne_eq]; omega
    by_cases h2 : nb = 0
    · have HM := Lib.hid (HZ.out (.inr h2))
      subst h2
      go_wp2
      go_ret2
      exact ⟨⟨_, rfl, by rw [HM.out]; exact Fre.nil _ _⟩, HO.out⟩
    · have h2b : (((nb : Nat) : Int) == 0) = false := by simp only [beq_eq_false_iff_ne, ne_eq]; omega
      obtain ⟨N, hN⟩ : ∃ N, N = na + nb - 1 := ⟨_, rfl⟩
      have hsum : ((na : Int) + (nb : Int)) - 1 = (N : Int) := by omega
      have hlim : ¬ (32768 < (N : Int)) := by omega
      have hNb : N ≤ 2000 := by omega
      rw [← hN] at HDN
      have hNN : ∀ i k, i < na → k < nb → i + k < N := fun i k hi hk => by omega
      have HNN := Lib.hid hNN; have HN := Lib.hid hN
      clear hN hNN
      have hmk := make_run N (by omega) w2
      have HBK := Lib.hid (blk_made w2 N)
      have HOn := Lib.hid ((On.refl HO.out.tab).alloc (.cells (madeCells #[.int .u64 0] N) 22))
      obtain ⟨w0, hw0⟩ : ∃ w0, w0 = w2.alloc (.cells (madeCells #[.int .u64 0] N) 22) := ⟨_, rfl⟩
      rw [← hw0] at hmk HBK HOn
      have HW0 := Lib.hid hw0; clear hw0
      obtain ⟨C, hCe⟩ : ∃ C, C = w2.heap.size := ⟨_, rfl⟩
      rw [← hCe] at hmk HBK
      have HCE := Lib.hid hCe; clear hCe
      have HST := Lib.hid (Pm.start (pOf f) N A B)
      go_wp2_with fail
      go_loopw [9] (fun vi wr => ∃ (i : Nat) (o : List Nat), i ≤ na ∧ vi = .int .i64 (i : Int) ∧ Hid (Pm (pOf f) N A B i 0 o ∧ Blk C wr o ∧ On w2 wr)) (fun vi _ => na - (intOf vi).toNat)
      case atStart => exact ⟨0, _, Nat.zero_le _, rfl, HST.out, HBK.out, HOn.out⟩
      case round =>
        rename World => wr
        obtain ⟨i, o, hi, rfl, HI⟩ := hrel
        by_cases hia : i < na
        · go_wp2_with fail
          go_loopw [10] (fun vk wq => ∃ (k : Nat) (o : List Nat), k ≤ nb ∧ vk = .int .i64 (k : Int) ∧ Hid (Pm (pOf f) N A B i k o ∧ Blk C wq o ∧ On w2 wq)) (fun vk _ => nb - (intOf vk).toNat)
          case atStart => exact ⟨0, o, Nat.zero_le _, rfl, HI⟩
          case round =>
            rename World => wq
            obtain ⟨k, o2, hk, rfl, HI2⟩ := hrel
            by_cases hkb : k < nb
            · have hikN := HNN.out i k hia hkb
              obtain ⟨-, hcA⟩ := reads_opt (HRA.out.on HI2.out.2.2)
              obtain ⟨bA, oA, rfl, hcellA⟩ := hcA i (by rw [HNA.out]; exact hia)
              obtain ⟨-, hcB⟩ := reads_opt (HRB.out.on HI2.out.2.2)
              obtain ⟨bB, oB, rfl, hcellB⟩ := hcB k (by rw [HNB.out]; exact hkb)
              have hxa := HUA.out _ (getD_mem A i (by rw [HNA.out]; exact hia))
              have hxb := HUB.out _ (getD_mem B k (by rw [HNB.out]; exact hkb))
              have hcC := HI2.out.2.1.cell (i + k) (by rw [HI2.out.1.1]; exact hikN)
              have hfC := HI2.out.2.1.free (i + k)
              have hyb : o2.getD (i + k) 0 ≤ 998244353 := by
                rw [HI2.out.1.2 _ hikN]
                have := Nat.mod_lt (S (pg A B (i + k)) i + (if i ≤ i + k ∧ i + k < i + k then A.getD i 0 * B.getD (i + k - i) 0 else 0)) hp
                have := pOf_le f; omega
              have HJ := Lib.hid (HI2.out.1.step hp hikN)
              have HB2 : Hid (∀ z n, Blk C ((wq.drewN n).setCell ⟨C, i + k, none⟩ (.int .u64 ((z : Nat) : Int))) (o2.set (i + k) z)) := fun z n => (HI2.out.2.1.drewN n).set _ z (by rw [HI2.out.1.1]; exact hikN)
              have HO4 : Hid (∀ u n, On w2 ((wq.drewN n).setCell ⟨C, i + k, none⟩ u)) := fun u n => (HI2.out.2.2.drewN n).setCell (by rw [HCE.out]; exact Nat.le_refl _) _
              have hadd : (i : Int) + (k : Int) = ((i + k : Nat) : Int) := (Int.natCast_add i k).symm
              clear hcA hcB
              generalize A.getD i 0 = x at *
              generalize B.getD k 0 = z at *
              generalize o2.getD (i + k) 0 = y at *
              generalize i + k = t at *
              have hmu := mulF_le f x z
              have hwt : IntKind.i64.wrap (t : Int) = (t : Int) := IntWalk.i64_in _ (by omega)
              have hwt2 : IntKind.i64.wrap ((i : Int) + (k : Int)) = (t : Int) := by rw [hadd]; exact hwt
              have htN : (t : Int) < (N : Int) := by omega
              have ht0 : (0 : Int) ≤ (t : Int) := by omega
              have hiA : (i : Int) < (na : Int) := by omega
              have hkB : (k : Int) < (nb : Int) := by omega
              go_wp2_with fail
              refine region_quiet_tail 22 (by kernel_rfl) (by kernel_rfl) ?_
              simp only [List.take_succ_cons, List.take_zero, List.drop_succ_cons, List.drop_zero]
              repeat (quiet_step ((first | (go_at_call 62; exact quiet_of_drawn (rmul_any f x z _ (by omega) (by omega))) | (go_at_call 61; exact quiet_of_drawn (radd_any f y (mulF f x z) _ (by omega) (by omega))))))
              refine wpQuiet_nil ?_
              intro _ hw'
              obtain ⟨nq, hw''⟩ := hw'
              subst hw''
              have hco2 : (wq.drewN nq).cell? ⟨C, t, none⟩ = _ := hcC
              have hfr2 : (wq.drewN nq).frozen? ⟨C, t, none⟩ = false := hfC
              go_wp2
              go_roundw
              case rel => exact ⟨k + 1, _, by omega, by go_num, HJ.out, HB2.out _ _, HO4.out _ _⟩
              case measure => simp [intOf]; omega
            · obtain rfl : k = nb := by omega
              have HI3 : Hid (Pm (pOf f) N A B (i + 1) 0 o2 ∧ Blk C wq o2 ∧ On w2 wq) := by
                have h := HI2.out
                rw [← HNB.out] at h
                exact ⟨h.1.next, h.2⟩
              go_wp2
              go_roundw
              case rel => exact ⟨i + 1, o2, by omega, by go_num, HI3⟩
              case measure => simp [intOf]; omega
        · obtain rfl : i = na := by omega
          have HE := Lib.hid (HDN.out o (by omega) (by omega) HI.out.1)
          have HLE : Hid (o.length = N) := HI.out.1.1
          have HBO := Lib.hid HI.out.2.1
          have HOF := Lib.hid (HO.out.trans HI.out.2.2)
          have HSZ : Hid (w.heap.size ≤ C) := by unfold Hid; rw [HCE.out]; exact HO.out.size
          clear HI
          go_wp2
          go_ret2
          exact ⟨⟨.slice (some ⟨C, 0, none⟩) N N, rfl, .inr ⟨C, by rw [← HE.out, HLE.out], HSZ.out, by rw [← HE.out]; exact HBO.out⟩⟩, HOF.out⟩
end Go.Proofs.YtiipgbobgeejmaaDoor
