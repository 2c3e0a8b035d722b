/- The document's own answers for polynomials: Normal, coefficient, Scale, Add, Sub, Eval: what each call returns. -/
import Derived.Test.YtiibcfajcndcnaaDoorKh01
import Derived.Test.YtiibcfajcndcnaaDoorKf14
import Derived.Test.YtiibcfajcndcnaaDoorKf05
import Derived.Test.YtiibcfajcndcnaaDoorKf03
import Derived.Test.YtiibcfajcndcnaaDoorKf04
import Derived.BigQuiet
/- The document's own answers for polynomials: Normal, coefficient, Scale, Add, Sub, Eval: what each call returns. -/
namespace Go.Proofs.YtiibcfajcndcnaaDoor
open Go.RowKit
set_option linter.unusedVariables false

theorem take_map_snoc (g : Nat → Nat) (l : List Nat) (k : Nat) (h : k < l.length) : (l.take k).map g ++ [g (l.getD k 0)] = (l.take (k + 1)).map g := by
  rw [take_snoc l k h, List.map_append]; rfl
theorem Ow.shorter {B : Nat} {w : World} {v : Value} {l : List Nat} {a : Option Addr} {n c : Nat} (h : Ow B w (.slice a n c) l) (k : Nat) (hk : k ≤ l.length) : Ow B w (.slice a k c) (l.take k) := by
  have hkl : (l.take k).length = k := by rw [List.length_take]; omega
  rcases h.cases with ⟨rfl, e⟩ | ⟨g, cap, e, hb, hR⟩
  · simp only [Value.slice.injEq] at e
    obtain ⟨rfl, rfl, rfl⟩ := e
    obtain rfl : k = 0 := by simpa using hk
    exact Ow.nil _ _
  · simp only [Value.slice.injEq] at e
    obtain ⟨rfl, rfl, rfl⟩ := e
    obtain ⟨cur, hg, h1, h2, h3, h4⟩ := hR.cur
    have := Ow.of_row (B := B) (Row.mk (l := l.take k) hg (by rw [hkl]; omega) h2 h3 (by
      have e1 : cur.toList.take (l.take k).length = (cur.toList.take l.length).take k := by rw [List.take_take, hkl, Nat.min_eq_left hk]
      rw [e1, h4]; unfold nums; rw [List.map_take])) hb
    rw [hkl] at this
    exact this
theorem ow_cap {B : Nat} {w : World} {a : Option Addr} {n c : Nat} {l : List Nat} (h : Ow B w (.slice a n c) l) : n = l.length ∧ n ≤ c ∧ c ≤ 9223372036854775807 := by
  rcases h.cases with ⟨rfl, e⟩ | ⟨g, cap, e, hb, hR⟩
  · simp only [Value.slice.injEq] at e
    obtain ⟨rfl, rfl, rfl⟩ := e
    simp
  · simp only [Value.slice.injEq] at e
    obtain ⟨rfl, rfl, rfl⟩ := e
    exact ⟨rfl, hR.lt.1, hR.lt.2⟩

set_option maxHeartbeats 1000000 in
theorem rnorm_any (f : Int) (l : List Nat) (v : Value) (w : World) (hT : Tab w) (hR : Reads w v l) (hl : l.length ≤ 1000) :
    Calls Tryd.prog 93 #[.int .i64 f, v] w fun e w' => (∃ u, e = .returned u ∧ Ow w.heap.size w' u (normF f l)) ∧ On w w' := by
  cases hv : validB f
  · have HZ := Lib.hid (normF_none f l ((pOf_zero_iff f).2 hv))
    have HV := Lib.hid hv; clear hv
    go_enter Tryd.func93, Tryd.ntmps93
    go_wp2_with (go_at_call 70; refine (rvalid_any _ _).mono ?_; rintro e w' ⟨rfl, rfl⟩; rw [HV.out])
    go_ret
    exact ⟨⟨_, rfl, by rw [HZ.out]; exact Ow.nil _ _⟩, On.refl hT⟩
  · have HV := Lib.hid hv; clear hv
    obtain ⟨a, cap, rfl⟩ := hR.shape
    have HR := Lib.hid hR; have H0 := Lib.hid (On.refl hT)
    obtain ⟨M, hM⟩ : ∃ M, M = l.map (redF f) := ⟨_, rfl⟩
    have HML : Hid (M.length = l.length) := by unfold Hid; rw [hM]; simp
    have HN : Hid (normF f l = strip M) := by unfold Hid; rw [hM]; rfl
    have HS : Hid (∀ k, k < l.length → M.take k ++ [redF f (l.getD k 0)] = M.take (k + 1)) := fun k hk => by rw [hM, ← List.map_take, ← List.map_take]; exact take_map_snoc _ _ _ hk
    have HB : Hid (∀ x ∈ M, x ≤ 18446744073709551615) := fun x hx => by
      rw [hM] at hx
      obtain ⟨y, _, rfl⟩ := List.mem_map.1 hx
      have := redF_le f y; omega
    clear hR hT hM
    generalize hn : l.length = n at *
    have HNL := Lib.hid hn; clear hn
    go_enter Tryd.func93, Tryd.ntmps93
    go_wp2_with (go_at_call 70; refine (rvalid_any _ _).mono ?_; rintro e w' ⟨rfl, rfl⟩; rw [HV.out])
    go_loopw [5, 6] (fun vo vi wr => ∃ (k : Nat) (ao : Option Addr) (co : Nat), k ≤ n ∧ vi = .int .i64 (k : Int) ∧ vo = .slice ao k co ∧ Hid (On w wr ∧ Ow w.heap.size wr (.slice ao k co) (M.take k))) (fun _ vi _ => n - (intOf vi).toNat)
    case atStart => exact ⟨0, none, 0, Nat.zero_le _, rfl, rfl, H0.out, Ow.nil _ _⟩
    case round =>
      rename World => wr
      obtain ⟨k, ao, co, hk, rfl, rfl, HI⟩ := hrel
      by_cases hlt : k < n
      · obtain ⟨-, hcx⟩ := reads_opt (HR.out.on HI.out.1)
        obtain ⟨bX, oX, rfl, hcell⟩ := hcx k (by rw [HNL.out]; exact hlt)
        have hxb := HR.out.1 _ (getD_mem l k (by rw [HNL.out]; exact hlt))
        have HSK := Lib.hid (HS.out k hlt)
        clear hcx
        generalize l.getD k 0 = x at *
        go_wp2_with fail
        refine (rreduce_any f x _ hxb).mono ?_
        rintro e w' ⟨rfl, q, rfl⟩
        obtain ⟨v', w3, hrun, ho, hg, -⟩ := append_own w.heap.size (redF f x) _ rfl _ _ (wr.drewN q) _ rfl (HI.out.2.drewN q) (by have := HI.out.1.size; simpa using this) (by rw [List.length_take]; omega)
        obtain ⟨av2, cv2, rfl⟩ := ho.shape
        rw [HSK.out] at ho
        have hll : (M.take k ++ [redF f x]).length = k + 1 := by rw [HSK.out, List.length_take, HML.out]; omega
        rw [HSK.out] at hll hrun
        rw [hll] at hrun ho
        have HRUN := Lib.hid hrun; have HOO := Lib.hid ho
        have HON2 := Lib.hid ((HI.out.1.drewN q).grown (Nat.le_refl _) (HI.out.2.drewN q) hg)
        clear hrun ho hg hll
        go_wp2_with (at_builtin; refine wp_append2 rfl (.tmp 18) (.tmp 25) _ _ rfl _ _ _ rfl rfl HRUN.out ?_)
        go_roundw
        case rel => exact ⟨k + 1, av2, cv2, by omega, by go_num, rfl, HON2.out, HOO.out⟩
        case measure => simp [intOf]; omega
      · obtain rfl : k = n := by omega
        have hw2 := HI.out.2
        rw [List.take_of_length_le (by rw [HML.out]; exact Nat.le_refl _)] at hw2
        have HOW := Lib.hid hw2
        have HON := Lib.hid HI.out.1
        obtain ⟨-, hkc, hcm⟩ := ow_cap hw2
        clear hw2 HI
        go_wp2_with fail
        go_loop [7] (fun vj => ∃ j : Nat, vj = .int .i64 (j : Int) ∧ j ≤ k ∧ Hid (strip (M.take j) = strip M)) (fun vj => (intOf vj).toNat)
        case atStart => exact ⟨k, rfl, Nat.le_refl _, by unfold Hid; rw [List.take_of_length_le (by rw [HML.out]; exact Nat.le_refl _)]⟩
        case round =>
          obtain ⟨j, rfl, hj, HK⟩ := hrel
          have fin : ∀ j, j ≤ k → strip M = M.take j → Ow w.heap.size wr (.slice ao j co) (normF f l) := fun j hj h => by
            rw [HN.out, h]
            exact Ow.shorter (v := .slice ao k co) HOW.out j (by rw [HML.out]; exact hj)
          have HFIN := Lib.hid fin; clear fin
          cases j with
          | zero =>
            have HZ : Hid (strip M = M.take 0) := by unfold Hid; rw [← HK.out]; rfl
            go_wp2
            go_ret
            exact ⟨⟨_, rfl, HFIN.out 0 (by omega) HZ.out⟩, HON.out⟩
          | succ j =>
            obtain ⟨-, hcx⟩ := reads_opt (HOW.out.reads HB.out)
            obtain ⟨bX, oX, rfl, hcell⟩ := hcx j (by rw [HML.out]; omega)
            have hki : ((j + 1 : Nat) : Int) - 1 = (j : Int) := by omega
            clear hcx
            by_cases hd : M.getD j 0 = 0
            · have HX : Hid (strip (M.take j) = strip M) := by unfold Hid; rw [← HK.out, strip_take_zero M j (by rw [HML.out]; omega) hd]
              rw [hd] at hcell
              clear hd
              go_wp2
              go_round
              case rel => exact ⟨j, by go_num, by omega, HX⟩
              case measure => simp [intOf]
            · have HX : Hid (strip M = M.take (j + 1)) := by unfold Hid; rw [← HK.out, strip_take_len M j (by rw [HML.out]; omega) hd]
              have hd0 : (((M.getD j 0 : Nat) : Int) == 0) = false := by simp only [beq_eq_false_iff_ne, ne_eq]; omega
              clear hd
              generalize M.getD j 0 = y at *
              go_wp2
              go_ret
              exact ⟨⟨_, rfl, HFIN.out (j + 1) (by omega) HX.out⟩, HON.out⟩
theorem rcoef_any (l : List Nat) (i : Nat) (v : Value) (w : World) (hR : Reads w v l) (hi : i ≤ 1000000) :
    Calls Tryd.prog 92 #[v, .int .i64 (i : Int)] w fun e w' => e = .returned (.int .u64 ((l.getD i 0 : Nat) : Int)) ∧ w = w' := by
  obtain ⟨a, cap, rfl⟩ := hR.shape
  by_cases h : i < l.length
  · obtain ⟨-, hcx⟩ := reads_opt hR
    obtain ⟨bX, oX, rfl, hcell⟩ := hcx i h
    have hb := hR.1 _ (getD_mem l i h)
    clear hcx hR
    generalize l.getD i 0 = x at *
    generalize l.length = n at *
    go_enter Tryd.func92, Tryd.ntmps92
    go_wp2
    go_ret
    exact ⟨rfl, rfl⟩
  · rw [getD_over (by omega)]
    clear hR
    generalize l.length = n at *
    go_enter Tryd.func92, Tryd.ntmps92
    go_wp2
    go_ret
    exact ⟨rfl, rfl⟩
end Go.Proofs.YtiibcfajcndcnaaDoor

/- The document's own answers for polynomials: Scale, Add, Eval: what each call returns. -/
namespace Go.Proofs.YtiibcfajcndcnaaDoor
open Go.RowKit
set_option linter.unusedVariables false

theorem E_snoc (c x : Nat) : ∀ l : List Nat, E (l ++ [c]) x = E l x + c * x ^ l.length := by
  intro l
  induction l with
  | nil => show c + x * 0 = 0 + c * x ^ 0; simp
  | cons d l ih =>
    show d + x * E (l ++ [c]) x = d + x * E l x + c * x ^ (l.length + 1)
    rw [ih, Nat.pow_succ, Nat.mul_add, Nat.add_assoc]; congr 2; ac_rfl

set_option maxHeartbeats 1000000 in
theorem rscale_any (f : Int) (l : List Nat) (s : Nat) (v : Value) (w : World) (hT : Tab w) (hR : Reads w v l) (hl : l.length ≤ 1000) (hs : s ≤ 18446744073709551615) :
    Calls Tryd.prog 79 #[.int .i64 f, v, .int .u64 (s : Int)] w fun e w' => (∃ u, e = .returned u ∧ Ow w.heap.size w' u (scaleF f l s)) ∧ On w w' := by
  obtain ⟨a, cap, rfl⟩ := hR.shape
  have HR := Lib.hid hR; have H0 := Lib.hid (On.refl hT)
  obtain ⟨M, hM⟩ : ∃ M, M = l.map (fun x => mulF f x s) := ⟨_, rfl⟩
  have HML : Hid (M.length = l.length) := by unfold Hid; rw [hM]; simp
  have HN : Hid (normF f M = scaleF f l s) := by unfold Hid; rw [hM]; rfl
  have HS : Hid (∀ k, k < l.length → M.take k ++ [mulF f (l.getD k 0) s] = M.take (k + 1)) := fun k hk => by rw [hM, ← List.map_take, ← List.map_take]; exact take_map_snoc (fun x => mulF f x s) _ _ hk
  have HB : Hid (∀ x ∈ M, x ≤ 18446744073709551615) := fun x hx => by
    rw [hM] at hx
    obtain ⟨y, _, rfl⟩ := List.mem_map.1 hx
    have := mulF_le f y s; omega
  clear hR hT hM
  generalize hn : l.length = n at *
  have HNL := Lib.hid hn; clear hn
  go_enter Tryd.func79, Tryd.ntmps79
  go_wp2_with fail
  go_loopw [7, 8] (fun vo vi wr => ∃ (k : Nat) (ao : Option Addr) (co : Nat), k ≤ n ∧ vi = .int .i64 (k : Int) ∧ vo = .slice ao k co ∧ Hid (On w wr ∧ Ow w.heap.size wr (.slice ao k co) (M.take k))) (fun _ vi _ => n - (intOf vi).toNat)
  case atStart => exact ⟨0, none, 0, Nat.zero_le _, rfl, rfl, H0.out, Ow.nil _ _⟩
  case round =>
    rename World => wr
    obtain ⟨k, ao, co, hk, rfl, rfl, HI⟩ := hrel
    by_cases hlt : k < n
    · obtain ⟨-, hcx⟩ := reads_opt (HR.out.on HI.out.1)
      obtain ⟨bX, oX, rfl, hcell⟩ := hcx k (by rw [HNL.out]; exact hlt)
      have hxb := HR.out.1 _ (getD_mem l k (by rw [HNL.out]; exact hlt))
      have HSK := Lib.hid (HS.out k hlt)
      clear hcx
      generalize l.getD k 0 = x at *
      go_wp2_with fail
      refine (rmul_any f x s _ hxb hs).mono ?_
      rintro e w' ⟨rfl, q, rfl⟩
      obtain ⟨v', w3, hrun, ho, hg, -⟩ := append_own w.heap.size (mulF f x s) _ rfl _ _ (wr.drewN q) _ rfl (HI.out.2.drewN q) (by have := HI.out.1.size; simpa using this) (by rw [List.length_take]; omega)
      obtain ⟨av2, cv2, rfl⟩ := ho.shape
      rw [HSK.out] at ho
      have hll : (M.take k ++ [mulF f x s]).length = k + 1 := by rw [HSK.out, List.length_take, HML.out]; omega
      rw [HSK.out] at hll hrun
      rw [hll] at hrun ho
      have HRUN := Lib.hid hrun; have HOO := Lib.hid ho
      have HON2 := Lib.hid ((HI.out.1.drewN q).grown (Nat.le_refl _) (HI.out.2.drewN q) hg)
      clear hrun ho hg hll
      go_wp2_with (at_builtin; refine wp_append2 rfl (.tmp 15) (.tmp 23) _ _ rfl _ _ _ rfl rfl HRUN.out ?_)
      go_roundw
      case rel => exact ⟨k + 1, av2, cv2, by omega, by go_num, rfl, HON2.out, HOO.out⟩
      case measure => simp [intOf]; omega
    · obtain rfl : k = n := by omega
      have hw2 := HI.out.2
      rw [List.take_of_length_le (by rw [HML.out]; exact Nat.le_refl _)] at hw2
      have HOW := Lib.hid hw2
      have HON := Lib.hid HI.out.1
      clear hw2 HI
      go_wp2_with fail
      refine (rnorm_any f M _ wr HON.out.tab (HOW.out.reads HB.out) (by rw [HML.out]; omega)).mono ?_
      rintro e w' ⟨⟨u, rfl, hu⟩, hO1⟩
      rw [HN.out] at hu
      have HU : Hid (Ow w.heap.size w' u (scaleF f l s)) := by
        have hs := HON.out.size
        rcases hu.cases with ⟨e1, rfl⟩ | ⟨g, c, rfl, hb, hR⟩
        · unfold Hid; rw [e1]; exact Ow.nil _ _
        · exact Ow.of_row hR (by omega)
      have HO := Lib.hid (HON.out.trans hO1)
      clear hu hO1
      go_wp2
      go_ret
      exact ⟨⟨_, rfl, HU.out⟩, HO.out⟩
theorem Ow.mono {B C : Nat} {w : World} {v : Value} {l : List Nat} (h : Ow B w v l) (k : C ≤ B) : Ow C w v l := by
  rcases h.cases with ⟨rfl, rfl⟩ | ⟨g, c, rfl, hb, hR⟩
  · exact Ow.nil _ _
  · exact Ow.of_row hR (by omega)
set_option maxHeartbeats 1000000 in
theorem raddp_any (f : Int) (l m : List Nat) (v v' : Value) (w : World) (hT : Tab w) (hR : Reads w v l) (hR' : Reads w v' m) (hl : l.length ≤ 1000) (hm : m.length ≤ 1000) :
    Calls Tryd.prog 78 #[.int .i64 f, v, v'] w fun e w' => (∃ u, e = .returned u ∧ Ow w.heap.size w' u (addL f l m)) ∧ On w w' := by
  obtain ⟨a, cap, rfl⟩ := hR.shape
  obtain ⟨a', cap', rfl⟩ := hR'.shape
  have HR := Lib.hid hR; have HR' := Lib.hid hR'; have H0 := Lib.hid (On.refl hT)
  obtain ⟨N, hN⟩ : ∃ N, N = max l.length m.length := ⟨_, rfl⟩
  have HND : Hid (addL f l m = normF f ((List.range N).map fun i => addF f (l.getD i 0) (m.getD i 0))) := by unfold Hid; rw [hN]; rfl
  have hNb : N ≤ 1000 := by omega
  have hNl : l.length ≤ N := by omega
  have hNm : m.length ≤ N := by omega
  have HNX : Hid (∀ k, k < N → k < l.length ∨ k < m.length) := fun k hk => by omega
  have HS : Hid (∀ k, (List.range k).map (fun i => addF f (l.getD i 0) (m.getD i 0)) ++ [addF f (l.getD k 0) (m.getD k 0)] = (List.range (k + 1)).map fun i => addF f (l.getD i 0) (m.getD i 0)) := fun k => by rw [List.range_succ, List.map_append]; rfl
  have HB : Hid (∀ k, ∀ x ∈ (List.range k).map (fun i => addF f (l.getD i 0) (m.getD i 0)), x ≤ 18446744073709551615) := fun k x hx => by
    obtain ⟨y, _, rfl⟩ := List.mem_map.1 hx
    have := addF_le f (l.getD y 0) (m.getD y 0); omega
  have HBL := Lib.hid (bdL l hR.1); have HBM := Lib.hid (bdL m hR'.1)
  clear hR hR' hT hN
  generalize hn : l.length = n at *
  have HNL := Lib.hid hn; clear hn
  generalize hn2 : m.length = n2 at *
  have HNL2 := Lib.hid hn2; clear hn2
  go_enter Tryd.func78, Tryd.ntmps78
  go_wp2_with fail
  go_loopw [7, 8] (fun vo vi wr => ∃ (k : Nat) (ao : Option Addr) (co : Nat), k ≤ N ∧ vi = .int .i64 (k : Int) ∧ vo = .slice ao k co ∧ Hid (On w wr ∧ Ow w.heap.size wr (.slice ao k co) ((List.range k).map fun i => addF f (l.getD i 0) (m.getD i 0)))) (fun _ vi _ => N - (intOf vi).toNat)
  case atStart => exact ⟨0, none, 0, Nat.zero_le _, rfl, rfl, H0.out, Ow.nil _ _⟩
  case round =>
    rename World => wr
    obtain ⟨k, ao, co, hk, rfl, rfl, HI⟩ := hrel
    by_cases hlt : k < N
    · have hor := HNX.out k hlt
      have HC1 := Lib.hid (rcoef_any l k _ wr (HR.out.on HI.out.1) (by omega))
      have HC2 := Lib.hid (rcoef_any m k _ wr (HR'.out.on HI.out.1) (by omega))
      have hb1 := HBL.out k; have hb2 := HBM.out k
      have HSK := Lib.hid (HS.out k)
      generalize hx : l.getD k 0 = x at *
      generalize hy : m.getD k 0 = y at *
      have HXX := Lib.hid hx; have HYY := Lib.hid hy
      clear hx hy
      have go : k < n ∨ (¬ k < n ∧ k < n2) := by omega
      clear hor
      rcases go with h1 | ⟨h1, h2⟩
      all_goals
        go_wp2_with fail
        refine HC1.out.mono ?_
        rintro e w' ⟨rfl, rfl⟩
        go_wp2_with fail
        refine HC2.out.mono ?_
        rintro e w' ⟨rfl, rfl⟩
        go_wp2_with fail
        refine (radd_any f x y _ hb1 hb2).mono ?_
        rintro e w' ⟨rfl, q, rfl⟩
        obtain ⟨v', w3, hrun, ho, hg, -⟩ := append_own w.heap.size (addF f x y) _ rfl _ _ (wr.drewN q) _ rfl (HI.out.2.drewN q) (by have := HI.out.1.size; simpa using this) (by simp; omega)
        obtain ⟨av2, cv2, rfl⟩ := ho.shape
        rw [HSK.out] at ho
        have hll : ((List.range (k + 1)).map fun i => addF f (l.getD i 0) (m.getD i 0)).length = k + 1 := by simp
        rw [HSK.out] at hrun
        rw [hll] at hrun ho
        have HRUN := Lib.hid hrun; have HOO := Lib.hid ho
        have HON2 := Lib.hid ((HI.out.1.drewN q).grown (Nat.le_refl _) (HI.out.2.drewN q) hg)
        clear hrun ho hg hll
        go_wp2_with (at_builtin; refine wp_append2 rfl (.tmp 21) (.tmp 30) _ _ rfl _ _ _ rfl rfl HRUN.out ?_)
        go_roundw
        case rel => exact ⟨k + 1, av2, cv2, by omega, by go_num, rfl, HON2.out, HOO.out⟩
        case measure => simp [intOf]; omega
    · obtain rfl : k = N := by omega
      have HOW := Lib.hid HI.out.2
      have HON := Lib.hid HI.out.1
      have h1 : ¬ k < n := by omega
      have h2 : ¬ k < n2 := by omega
      clear HI
      go_wp2_with fail
      refine (rnorm_any f _ _ wr HON.out.tab (HOW.out.reads (HB.out k)) (by simp; omega)).mono ?_
      rintro e w' ⟨⟨u, rfl, hu⟩, hO1⟩
      rw [← HND.out] at hu
      have HU := Lib.hid (hu.mono HON.out.size)
      have HO := Lib.hid (HON.out.trans hO1)
      clear hu hO1
      go_wp2
      go_ret
      exact ⟨⟨_, rfl, HU.out⟩, HO.out⟩
theorem reval_step (f : Int) (l : List Nat) (x k : Nat) (hk : k < l.length) : addF f (evF f (l.take k) x) (mulF f (l.getD k 0) (powC f x k)) = evF f (l.take (k + 1)) x := by
  rcases Nat.eq_zero_or_pos (pOf f) with hp | hp
  · rw [evF_zero _ _ hp, addF_zero _ _ _ hp, evF_zero _ _ hp]
  · rw [take_snoc l k hk, evF_pos _ _ hp, evF_pos _ _ hp, addF_modL, E_snoc, List.length_take, Nat.min_eq_left (Nat.le_of_lt hk), addF_pos _ _ _ hp, mulF_pos _ _ _ hp, Nat.add_mod_mod]
    unfold powC
    by_cases h : k = 0
    · rw [if_pos h, h, Nat.pow_zero]
    · rw [if_neg h, powF_pos _ _ _ hp, Nat.add_mod, Nat.mul_mod_mod, ← Nat.add_mod]
set_option maxHeartbeats 1000000 in
theorem reval_any (f : Int) (l : List Nat) (x : Nat) (v : Value) (w : World) (hR : Reads w v l) (hx : x ≤ 18446744073709551615) :
    Calls Tryd.prog 51 #[.int .i64 f, v, .int .u64 (x : Int)] w fun e w' => e = .returned (.int .u64 ((evF f l x : Nat) : Int)) ∧ ∃ k, w' = w.drewN k := by
  obtain ⟨a, cap, rfl⟩ := hR.shape
  have hlb := hR.2.1
  have HR := Lib.hid hR
  have HS := Lib.hid (reval_step f l x)
  have HE0 : Hid (evF f (l.take 0) x = 0) := by unfold Hid evF; split; rfl; show 0 % _ = 0; simp
  have HFN : Hid (l.take l.length = l) := List.take_length
  clear hR
  generalize hn : l.length = n at *
  have HNL := Lib.hid hn; clear hn
  go_enter Tryd.func51, Tryd.ntmps51
  go_wp2_with fail
  go_loopw [7, 8, 9] (fun vs vp vi wr => ∃ k q : Nat, k ≤ n ∧ vi = .int .i64 (k : Int) ∧ vp = .int .u64 ((powC f x k : Nat) : Int) ∧ vs = .int .u64 ((evF f (l.take k) x : Nat) : Int) ∧ Hid (wr = w.drewN q)) (fun _ _ vi _ => n - (intOf vi).toNat)
  case atStart => exact ⟨0, 0, Nat.zero_le _, rfl, rfl, by rw [HE0.out]; rfl, rfl⟩
  case round =>
    rename World => wr
    obtain ⟨k, q, hk, rfl, rfl, rfl, HW⟩ := hrel
    by_cases hlt : k < n
    · have hrd : Reads wr (.slice a n cap) l := by rw [HW.out]; exact HR.out.drewN q
      obtain ⟨-, hcx⟩ := reads_opt hrd
      obtain ⟨bX, oX, rfl, hcell⟩ := hcx k (by rw [HNL.out]; exact hlt)
      have hxb := hrd.1 _ (getD_mem l k (by rw [HNL.out]; exact hlt))
      have HSK := Lib.hid (HS.out k hlt)
      have hpc := powC_le f x k; have HPC := Lib.hid (powC_succ f x k)
      have hev := evF_le f (l.take k) x
      clear hcx hrd
      generalize l.getD k 0 = y at *
      generalize hE : evF f (l.take k) x = Ek at *
      have HE := Lib.hid hE; clear hE
      generalize hP : powC f x k = Pk at *
      have HP := Lib.hid hP; clear hP
      have hmu := mulF_le f y Pk
      go_wp2_with fail
      refine (rmul_any f y Pk _ hxb (by omega)).mono ?_
      rintro e w' ⟨rfl, q1, rfl⟩
      go_wp2_with fail
      refine (radd_any f Ek (mulF f y Pk) _ (by omega) (by omega)).mono ?_
      rintro e w' ⟨rfl, q2, rfl⟩
      go_wp2_with fail
      refine (rmul_any f Pk x _ (by omega) hx).mono ?_
      rintro e w' ⟨rfl, q3, rfl⟩
      go_wp2_with fail
      go_roundw
      case rel => exact ⟨k + 1, q + q1 + q2 + q3, by omega, by go_num, by rw [HPC.out], by rw [HSK.out], by unfold Hid; rw [HW.out]; simp only [World.drewN_drewN]; congr 1; omega⟩
      case measure => simp [intOf]; omega
    · obtain rfl : k = n := by omega
      rw [HFN.out]
      go_wp2
      go_ret
      exact ⟨rfl, q, HW.out⟩
end Go.Proofs.YtiibcfajcndcnaaDoor

/- The document's own answers for polynomials: Mul: what each call returns. -/
namespace Go.Proofs.YtiibcfajcndcnaaDoor
open Go.RowKit
set_option linter.unusedVariables false

def pg (a b : List Nat) (t i : Nat) : Nat := if i ≤ t then a.getD i 0 * b.getD (t - i) 0 else 0
theorem pg_all (a b : List Nat) (t : Nat) : S (pg a b t) a.length = conv a b t := by
  have h1 : S (pg a b t) (max a.length (t + 1)) = S (pg a b t) a.length := S_tail (by omega) fun i hi _ => by
    unfold pg; rw [getD_over hi]; split <;> simp
  have h2 : S (pg a b t) (max a.length (t + 1)) = S (pg a b t) (t + 1) := S_tail (by omega) fun i hi _ => by
    unfold pg; rw [if_neg (by omega)]
  rw [← h1, h2]
  exact S_ext fun i hi => by unfold pg; rw [if_pos (by omega)]
/-- The first i rows of products are summed, and k products of the next one. -/
def Pm (p N : Nat) (a b : List Nat) (i k : Nat) (o : List Nat) : Prop :=
  o.length = N ∧ ∀ t, t < N → o.getD t 0 = (S (pg a b t) i + (if i ≤ t ∧ t < i + k then a.getD i 0 * b.getD (t - i) 0 else 0)) % p
theorem Pm.start (p N : Nat) (a b : List Nat) : Pm p N a b 0 0 (List.replicate N 0) :=
  ⟨by simp, fun t _ => by rw [replicate_getD, if_neg (by omega)]; unfold S; simp⟩
theorem Pm.step {f : Int} {N : Nat} {a b : List Nat} {i k : Nat} {o : List Nat} (hp : 0 < pOf f) (h : Pm (pOf f) N a b i k o) (ht : i + k < N) : Pm (pOf f) N a b i (k + 1) (o.set (i + k) (addF f (o.getD (i + k) 0) (mulF f (a.getD i 0) (b.getD k 0)))) := by
  refine ⟨by rw [List.length_set]; exact h.1, fun t ht2 => ?_⟩
  rw [getD_set1 _ _ _ _ (by rw [h.1]; exact ht)]
  by_cases e : t = i + k
  · subst e
    rw [if_pos rfl, h.2 _ ht, if_neg (by omega), if_pos (by omega), Nat.add_sub_cancel_left, Nat.add_zero, addF_pos _ _ _ hp, mulF_pos _ _ _ hp, ← Nat.add_mod]
  · rw [if_neg e, h.2 t ht2]
    by_cases c : i ≤ t ∧ t < i + k
    · rw [if_pos c, if_pos (by omega)]
    · rw [if_neg c, if_neg (by omega)]
theorem Pm.next {p N : Nat} {a b : List Nat} {i : Nat} {o : List Nat} (h : Pm p N a b i b.length o) : Pm p N a b (i + 1) 0 o := by
  refine ⟨h.1, fun t ht => ?_⟩
  rw [h.2 t ht, if_neg (c := i + 1 ≤ t ∧ t < i + 1 + 0) (by omega), Nat.add_zero]
  show _ = (S (pg a b t) i + pg a b t i) % p
  unfold pg
  by_cases c : i ≤ t
  · rw [if_pos c]
    by_cases c2 : t < i + b.length
    · rw [if_pos ⟨c, c2⟩]
    · rw [if_neg (by omega), getD_over (l := b) (by omega)]; simp
  · rw [if_neg c, if_neg (by omega)]
theorem Pm.done {f : Int} {l m : List Nat} {o : List Nat} (hl : 0 < (normF f l).length) (hm : 0 < (normF f m).length) (h : Pm (pOf f) ((normF f l).length + (normF f m).length - 1) (normF f l) (normF f m) (normF f l).length 0 o) : o = mulL f l m := by
  unfold mulL
  rw [if_neg (by omega)]
  refine list_ext (by rw [h.1]; simp) fun t ht => ?_
  rw [h.1] at ht
  rw [h.2 t ht, if_neg (by omega), Nat.add_zero, pg_all, getD_range, if_pos ht]

set_option maxRecDepth 100000 in
set_option maxHeartbeats 2000000 in
theorem rmulp_any (f : Int) (l m : List Nat) (v v' : Value) (w : World) (hT : Tab w) (hv : validB f = true) (hR : Reads w v l) (hR' : Reads w v' m) (hl : l.length ≤ 1000) (hm : m.length ≤ 1000) :
    Calls Tryd.prog 90 #[.int .i64 f, v, v'] w fun e w' => (∃ u, e = .returned (.tuple #[u, .int .i64 0]) ∧ Fre w.heap.size w' u (mulL f l m)) ∧ On w w' := by
  have hp := (valid_iff f).1 hv
  have HV := Lib.hid hv; clear hv
  have HR' := Lib.hid hR'
  have H0 := Lib.hid (On.refl hT)
  have HN1 := Lib.hid (rnorm_any f l v w hT hR hl)
  clear hR hR'
  have hAl := normF_len f l
  have hBl := normF_len f m
  have HZ : Hid ((normF f l).length = 0 ∨ (normF f m).length = 0 → mulL f l m = []) := fun h => by unfold mulL; rw [if_pos h]
  have HDN : Hid (∀ o, 0 < (normF f l).length → 0 < (normF f m).length → Pm (pOf f) ((normF f l).length + (normF f m).length - 1) (normF f l) (normF f m) (normF f l).length 0 o → o = mulL f l m) := fun o h1 h2 h => Pm.done h1 h2 h
  have HNM : Hid (∀ w', On w w' → _) := fun w' hw => rnorm_any f m v' w' hw.tab (HR'.out.on hw) hm
  have HUA : Hid (∀ x ∈ normF f l, x ≤ 998244353) := normF_le f l
  have HUB : Hid (∀ x ∈ normF f m, x ≤ 998244353) := normF_le f m
  generalize normF f l = A at *
  generalize normF f m = B at *
  go_enter Tryd.func90, Tryd.ntmps90
  go_wp2_with (go_at_call 70; refine (rvalid_any _ _).mono ?_; rintro e w' ⟨rfl, rfl⟩; rw [HV.out])
  refine HN1.out.mono ?_
  rintro e w1 ⟨⟨u1, rfl, hu1⟩, hO1⟩
  have HO := Lib.hid hO1; have HA := Lib.hid hu1
  clear hO1 hu1 HN1
  go_wp2_with fail
  refine (HNM.out w1 HO.out).mono ?_
  rintro e w2 ⟨⟨u2, rfl, hu2⟩, hO1⟩
  have HA := Lib.hid (HA.out.on hO1)
  have HB := Lib.hid (hu2.mono (C := w.heap.size) HO.out.size)
  have HO := Lib.hid (HO.out.trans hO1)
  clear hO1 hu2 HNM
  obtain ⟨a1, c1, rfl⟩ := HA.out.shape
  obtain ⟨a2, c2, rfl⟩ := HB.out.shape
  have HRA := Lib.hid (HA.out.reads fun x hx => by have := HUA.out x hx; omega)
  have HRB := Lib.hid (HB.out.reads fun x hx => by have := HUB.out x hx; omega)
  obtain ⟨na, hna⟩ : ∃ na, A.length = na := ⟨_, rfl⟩
  obtain ⟨nb, hnb⟩ : ∃ nb, B.length = nb := ⟨_, rfl⟩
  rw [hna] at HZ HDN HRA hAl ⊢
  rw [hnb] at HZ HDN HRB hBl ⊢
  have HNA := Lib.hid hna; have HNB := Lib.hid hnb
  clear hna hnb HA HB
  by_cases h1 : na = 0
  · have HM := Lib.hid (HZ.out (.inl h1))
    subst h1
    go_wp2
    go_ret2
    exact ⟨⟨_, rfl, by rw [HM.out]; exact Fre.nil _ _⟩, HO.out⟩
  · have h1b : (((na : Nat) : Int) == 0) = false := by simp only [beq_eq_false_iff_ne, ne_eq]; omega
    by_cases h2 : nb = 0
    · have HM := Lib.hid (HZ.out (.inr h2))
      subst h2
      go_wp2
      go_ret2
      exact ⟨⟨_, rfl, by rw [HM.out]; exact Fre.nil _ _⟩, HO.out⟩
    · have h2b : (((nb : Nat) : Int) == 0) = false := by simp only [beq_eq_false_iff_ne, ne_eq]; omega
      obtain ⟨N, hN⟩ : ∃ N, N = na + nb - 1 := ⟨_, rfl⟩
      have hsum : ((na : Int) + (nb : Int)) - 1 = (N : Int) := by omega
      have hlim : ¬ (32768 < (N : Int)) := by omega
      have hNb : N ≤ 2000 := by omega
      rw [← hN] at HDN
      have hNN : ∀ i k, i < na → k < nb → i + k < N := fun i k hi hk => by omega
      have HNN := Lib.hid hNN; have HN := Lib.hid hN
      clear hN hNN
      have hmk := make_run N (by omega) w2
      have HBK := Lib.hid (blk_made w2 N)
      have HOn := Lib.hid ((On.refl HO.out.tab).alloc (.cells (madeCells #[.int .u64 0] N) 22))
      obtain ⟨w0, hw0⟩ : ∃ w0, w0 = w2.alloc (.cells (madeCells #[.int .u64 0] N) 22) := ⟨_, rfl⟩
      rw [← hw0] at hmk HBK HOn
      have HW0 := Lib.hid hw0; clear hw0
      obtain ⟨C, hCe⟩ : ∃ C, C = w2.heap.size := ⟨_, rfl⟩
      rw [← hCe] at hmk HBK
      have HCE := Lib.hid hCe; clear hCe
      have HST := Lib.hid (Pm.start (pOf f) N A B)
      go_wp2_with fail
      go_loopw [9] (fun vi wr => ∃ (i : Nat) (o : List Nat), i ≤ na ∧ vi = .int .i64 (i : Int) ∧ Hid (Pm (pOf f) N A B i 0 o ∧ Blk C wr o ∧ On w2 wr)) (fun vi _ => na - (intOf vi).toNat)
      case atStart => exact ⟨0, _, Nat.zero_le _, rfl, HST.out, HBK.out, HOn.out⟩
      case round =>
        rename World => wr
        obtain ⟨i, o, hi, rfl, HI⟩ := hrel
        by_cases hia : i < na
        · go_wp2_with fail
          go_loopw [10] (fun vk wq => ∃ (k : Nat) (o : List Nat), k ≤ nb ∧ vk = .int .i64 (k : Int) ∧ Hid (Pm (pOf f) N A B i k o ∧ Blk C wq o ∧ On w2 wq)) (fun vk _ => nb - (intOf vk).toNat)
          case atStart => exact ⟨0, o, Nat.zero_le _, rfl, HI⟩
          case round =>
            rename World => wq
            obtain ⟨k, o2, hk, rfl, HI2⟩ := hrel
            by_cases hkb : k < nb
            · have hikN := HNN.out i k hia hkb
              obtain ⟨-, hcA⟩ := reads_opt (HRA.out.on HI2.out.2.2)
              obtain ⟨bA, oA, rfl, hcellA⟩ := hcA i (by rw [HNA.out]; exact hia)
              obtain ⟨-, hcB⟩ := reads_opt (HRB.out.on HI2.out.2.2)
              obtain ⟨bB, oB, rfl, hcellB⟩ := hcB k (by rw [HNB.out]; exact hkb)
              have hxa := HUA.out _ (getD_mem A i (by rw [HNA.out]; exact hia))
              have hxb := HUB.out _ (getD_mem B k (by rw [HNB.out]; exact hkb))
              have hcC := HI2.out.2.1.cell (i + k) (by rw [HI2.out.1.1]; exact hikN)
              have hfC := HI2.out.2.1.free (i + k)
              have hyb : o2.getD (i + k) 0 ≤ 998244353 := by
                rw [HI2.out.1.2 _ hikN]
                have := Nat.mod_lt (S (pg A B (i + k)) i + (if i ≤ i + k ∧ i + k < i + k then A.getD i 0 * B.getD (i + k - i) 0 else 0)) hp
                have := pOf_le f; omega
              have HJ := Lib.hid (HI2.out.1.step hp hikN)
              have HB2 : Hid (∀ z n, Blk C ((wq.drewN n).setCell ⟨C, i + k, none⟩ (.int .u64 ((z : Nat) : Int))) (o2.set (i + k) z)) := fun z n => (HI2.out.2.1.drewN n).set _ z (by rw [HI2.out.1.1]; exact hikN)
              have HO4 : Hid (∀ u n, On w2 ((wq.drewN n).setCell ⟨C, i + k, none⟩ u)) := fun u n => (HI2.out.2.2.drewN n).setCell (by rw [HCE.out]; exact Nat.le_refl _) _
              have hadd : (i : Int) + (k : Int) = ((i + k : Nat) : Int) := (Int.natCast_add i k).symm
              clear hcA hcB
              generalize A.getD i 0 = x at *
              generalize B.getD k 0 = z at *
              generalize o2.getD (i + k) 0 = y at *
              generalize i + k = t at *
              have hmu := mulF_le f x z
              have hwt : IntKind.i64.wrap (t : Int) = (t : Int) := IntWalk.i64_in _ (by omega)
              have hwt2 : IntKind.i64.wrap ((i : Int) + (k : Int)) = (t : Int) := by rw [hadd]; exact hwt
              have htN : (t : Int) < (N : Int) := by omega
              have ht0 : (0 : Int) ≤ (t : Int) := by omega
              have hiA : (i : Int) < (na : Int) := by omega
              have hkB : (k : Int) < (nb : Int) := by omega
              go_wp2_with fail
              refine region_quiet_tail 22 (by kernel_rfl) (by kernel_rfl) ?_
              simp only [List.take_succ_cons, List.take_zero, List.drop_succ_cons, List.drop_zero]
              repeat (quiet_step ((first | (go_at_call 49; exact quiet_of_drawn (rmul_any f x z _ (by omega) (by omega))) | (go_at_call 81; exact quiet_of_drawn (radd_any f y (mulF f x z) _ (by omega) (by omega))))))
              refine wpQuiet_nil ?_
              intro _ hw'
              obtain ⟨nq, hw''⟩ := hw'
              subst hw''
              have hco2 : (wq.drewN nq).cell? ⟨C, t, none⟩ = _ := hcC
              have hfr2 : (wq.drewN nq).frozen? ⟨C, t, none⟩ = false := hfC
              go_wp2
              go_roundw
              case rel => exact ⟨k + 1, _, by omega, by go_num, HJ.out, HB2.out _ _, HO4.out _ _⟩
              case measure => simp [intOf]; omega
            · obtain rfl : k = nb := by omega
              have HI3 : Hid (Pm (pOf f) N A B (i + 1) 0 o2 ∧ Blk C wq o2 ∧ On w2 wq) := by
                have h := HI2.out
                rw [← HNB.out] at h
                exact ⟨h.1.next, h.2⟩
              go_wp2
              go_roundw
              case rel => exact ⟨i + 1, o2, by omega, by go_num, HI3⟩
              case measure => simp [intOf]; omega
        · obtain rfl : i = na := by omega
          have HE := Lib.hid (HDN.out o (by omega) (by omega) HI.out.1)
          have HLE : Hid (o.length = N) := HI.out.1.1
          have HBO := Lib.hid HI.out.2.1
          have HOF := Lib.hid (HO.out.trans HI.out.2.2)
          have HSZ : Hid (w.heap.size ≤ C) := by unfold Hid; rw [HCE.out]; exact HO.out.size
          clear HI
          go_wp2
          go_ret2
          exact ⟨⟨.slice (some ⟨C, 0, none⟩) N N, rfl, .inr ⟨C, by rw [← HE.out, HLE.out], HSZ.out, by rw [← HE.out]; exact HBO.out⟩⟩, HOF.out⟩
end Go.Proofs.YtiibcfajcndcnaaDoor

/- The document's own answers for polynomials: Vanish: what each call returns. -/
namespace Go.Proofs.YtiibcfajcndcnaaDoor
open Go.RowKit
set_option linter.unusedVariables false

theorem conv_two (a : List Nat) (c t : Nat) : conv a [c, 1] t = a.getD t 0 * c + (if t = 0 then 0 else a.getD (t - 1) 0) := by
  unfold conv
  cases t with
  | zero => show S _ 0 + _ = _; unfold S; simp
  | succ s =>
    show S (fun i => a.getD i 0 * [c, 1].getD (s + 1 - i) 0) s + a.getD s 0 * [c, 1].getD (s + 1 - s) 0 + a.getD (s + 1) 0 * [c, 1].getD (s + 1 - (s + 1)) 0 = _
    rw [S_zero (fun i hi => by rw [getD_over (l := [c, 1]) (by simp; omega)]; simp), Nat.add_sub_cancel_left, Nat.sub_self, if_neg (by omega), Nat.add_sub_cancel]
    show 0 + a.getD s 0 * 1 + a.getD (s + 1) 0 * c = _
    omega
theorem mod_back (p y : Nat) (hp : 0 < p) : p - y % p + y = p * (y / p + 1) := by
  have h1 := Nat.mod_lt y hp
  have h2 := Nat.div_add_mod y p
  rw [Nat.mul_add, Nat.mul_one]; omega
theorem root_coef {f : Int} (hp : 0 < pOf f) (u b x : Nat) : (u * subF f 0 x + b) % pOf f = subF f b (mulF f x u) := by
  rw [subF_pos _ _ _ hp, subF_pos _ _ _ hp, mulF_pos _ _ _ hp, Nat.mod_mod, Nat.zero_add]
  refine add_cancel_mod (c := x * u) ?_
  have e2 : b + (pOf f - x * u % pOf f) + x * u = b + pOf f * (x * u / pOf f + 1) := by rw [Nat.add_assoc, mod_back _ _ hp]
  rw [e2, Nat.add_mul_mod_self_left]
  have e1 : u * (pOf f - x % pOf f) + b + x * u = b + pOf f * (u * (x / pOf f + 1)) := by
    rw [Nat.add_right_comm, Nat.mul_comm x u, ← Nat.mul_add, mod_back _ _ hp, Nat.add_comm]; congr 1; ac_rfl
  have e3 : (u * ((pOf f - x % pOf f) % pOf f) + b + x * u) % pOf f = (u * (pOf f - x % pOf f) + b + x * u) % pOf f := by
    rw [Nat.add_assoc, Nat.add_mod, Nat.mul_mod_mod, ← Nat.add_mod, ← Nat.add_assoc]
  rw [e3, e1, Nat.add_mul_mod_self_left]
theorem vanL_lt' {f : Int} (hv : validB f = true) (xs : List Nat) : ∀ y ∈ vanL f xs, y < pOf f := by
  have hp := (valid_iff f).1 hv
  have hb := big f hv
  rcases snoc_cases xs with rfl | ⟨l, c, rfl⟩
  · intro y hy
    have : vanL f [] = [1] := rfl
    rw [this] at hy; simp at hy; omega
  · intro y hy
    rw [vanL_snoc] at hy
    unfold rootL at hy
    obtain ⟨i, _, rfl⟩ := List.mem_map.1 hy
    exact subF_lt _ _ _ hp
theorem vanL_id {f : Int} (hv : validB f = true) (xs : List Nat) : normF f (vanL f xs) = vanL f xs := by
  refine normF_id ((valid_iff f).1 hv) (.inr ?_) (vanL_lt' hv xs)
  rw [vanL_len, Nat.add_sub_cancel, vanL_top f xs hv]; omega
theorem van_step {f : Int} (hv : validB f = true) (xs : List Nat) (x : Nat) : mulL f (vanL f xs) [subF f 0 x, 1] = vanL f (xs ++ [x]) := by
  have hp := (valid_iff f).1 hv
  have hb := big f hv
  have h2 : normF f [subF f 0 x, 1] = [subF f 0 x, 1] := normF_id hp (.inr (by simp)) (fun y hy => by
    simp at hy; rcases hy with rfl | rfl
    · exact subF_lt _ _ _ hp
    · omega)
  rw [vanL_snoc]
  unfold mulL
  rw [vanL_id hv, h2, vanL_len, if_neg (by simp)]
  refine list_ext (by rw [rootL_len, vanL_len]; simp) fun t ht => ?_
  simp only [List.length_map, List.length_range] at ht
  rw [getD_range, if_pos ht, conv_two, root_coef hp]
  unfold rootL
  have hT : t < (vanL f xs).length + 1 := by rw [vanL_len]; simpa using ht
  rw [getD_range, if_pos hT]

set_option maxHeartbeats 1000000 in
theorem rvanish_any (f : Int) (xs : List Nat) (v : Value) (w : World) (hT : Tab w) (hv : validB f = true) (hR : Reads w v xs) (hl : xs.length ≤ 900) :
    Calls Tryd.prog 77 #[.int .i64 f, v] w fun e w' => (∃ u, e = .returned (.tuple #[u, .int .i64 0]) ∧ Reads w' u (vanL f xs)) ∧ On w w' := by
  obtain ⟨a, cap, rfl⟩ := hR.shape
  have HV := Lib.hid hv; clear hv
  have HR := Lib.hid hR; have HT := Lib.hid hT
  have HSN : Hid (∀ k, k < xs.length → mulL f (vanL f (xs.take k)) [subF f 0 (xs.getD k 0), 1] = vanL f (xs.take (k + 1))) := fun k hk => by rw [take_snoc xs k hk]; exact van_step HV.out _ _
  have hlim : ¬ (1024 < (xs.length : Int)) := by omega
  have HFN : Hid (xs.take xs.length = xs) := List.take_length
  have HU := Lib.hid hR.1
  clear hR hT
  generalize hn : xs.length = n at *
  have HNL := Lib.hid hn; clear hn
  have H1 : Hid (Reads (w.alloc (.cells #[.int .u64 1] 22)) (.slice (some ⟨w.heap.size, 0, none⟩) 1 1) [1]) := reads_new w [1] 1 _ _ rfl rfl (by decide) (by decide)
  go_enter Tryd.func77, Tryd.ntmps77
  go_wp2_with (go_at_call 70; refine (rvalid_any _ _).mono ?_; rintro e w' ⟨rfl, rfl⟩; rw [HV.out])
  go_loopw [6, 7] (fun vp vi wr => ∃ (k : Nat) (ap : Option Addr) (cp : Nat), k ≤ n ∧ vi = .int .i64 (k : Int) ∧ vp = .slice ap (k + 1) cp ∧ Hid (On w wr ∧ Reads wr (.slice ap (k + 1) cp) (vanL f (xs.take k)))) (fun _ vi _ => n - (intOf vi).toNat)
  case atStart => exact ⟨0, _, 1, Nat.zero_le _, rfl, rfl, (On.refl HT.out).alloc _, H1.out⟩
  case round =>
    rename World => wr
    obtain ⟨k, ap, cp, hk, rfl, rfl, HI⟩ := hrel
    by_cases hlt : k < n
    · obtain ⟨-, hcx⟩ := reads_opt (HR.out.on HI.out.1)
      obtain ⟨bX, oX, rfl, hcell⟩ := hcx k (by rw [HNL.out]; exact hlt)
      have hxb := HU.out _ (getD_mem xs k (by rw [HNL.out]; exact hlt))
      have HS := Lib.hid (HSN.out k hlt)
      have HVL := Lib.hid (vanL_len f (xs.take (k + 1)))
      have HVK := Lib.hid (vanL_len f (xs.take k))
      clear hcx
      generalize xs.getD k 0 = x at *
      have hsb := subF_le f 0 x
      have HNG := Lib.hid (rneg_any f x wr hxb)
      generalize subF f 0 x = c at *
      go_wp2_with fail
      refine HNG.out.mono ?_
      rintro e w' ⟨rfl, q, rfl⟩
      have hOa : On wr ((wr.drewN q).alloc (.cells #[.int .u64 (c : Int), .int .u64 1] 22)) := ((On.refl HI.out.1.tab).drewN q).alloc _
      have hRm : Reads ((wr.drewN q).alloc (.cells #[.int .u64 (c : Int), .int .u64 1] 22)) (.slice (some ⟨wr.heap.size, 0, none⟩) 2 2) [c, 1] := reads_new (wr.drewN q) [c, 1] 2 _ _ rfl rfl (fun y hy => by simp at hy; omega) (by simp)
      have HMU := Lib.hid (rmulp_any f (vanL f (xs.take k)) [c, 1] _ _ _ hOa.tab HV.out (HI.out.2.on hOa) hRm (by rw [HVK.out, List.length_take]; omega) (by simp))
      have HOa := Lib.hid hOa
      clear hOa hRm
      go_wp2_with fail
      refine HMU.out.mono ?_
      rintro e w3 ⟨⟨u, rfl, hF⟩, hO1⟩
      rw [HS.out] at hF
      obtain ⟨au, rfl⟩ := fre_shape hF
      have hr := hF.reads (fun y hy => by have := vanL_le f _ y hy; omega) (by rw [HVL.out, List.length_take]; omega)
      have hll : (vanL f (xs.take (k + 1))).length = k + 1 + 1 := by rw [HVL.out, List.length_take, HNL.out]; omega
      rw [hll] at hr ⊢
      have HRF := Lib.hid hr
      have HOF := Lib.hid ((HI.out.1.trans HOa.out).trans hO1)
      clear hF hr hO1 hll
      go_wp2
      go_roundw
      case rel => exact ⟨k + 1, au, _, by omega, by go_num, rfl, HOF.out, HRF.out⟩
      case measure => simp [intOf]; omega
    · obtain rfl : k = n := by omega
      have hfin := HI.out.2
      rw [HFN.out] at hfin
      have HF := Lib.hid hfin
      have HO := Lib.hid HI.out.1
      clear hfin HI
      go_wp2
      go_ret2
      exact ⟨⟨_, rfl, HF.out⟩, HO.out⟩
end Go.Proofs.YtiibcfajcndcnaaDoor

/- The document's own answers for polynomials: Through: plain facts. -/
namespace Go.Proofs.YtiibcfajcndcnaaDoor
open Go.RowKit
set_option linter.unusedVariables false

theorem among_take (xs : List Nat) (n r i : Nat) : amongB (xs.take i) n r (xs.take i).length = amongB xs n r i := by
  unfold amongB; rw [List.take_length]
theorem Diff.next {f : Int} {xs : List Nat} {i : Nat} (hi : i < xs.length) (h : Diff f (xs.take i)) (k : amongB xs (pOf f) (xs.getD i 0 % pOf f) i = false) : Diff f (xs.take (i + 1)) := by
  rw [take_snoc xs i hi]
  exact h.snoc (by rw [among_take]; exact k)
theorem Diff.not {f : Int} {xs : List Nat} {i k : Nat} (hi : i < xs.length) (hk : k < i) (h : xs.getD i 0 % pOf f = xs.getD k 0 % pOf f) : ¬ Diff f xs := fun hd => by
  have h1 : Diff f (xs.take (i + 1)) := List.Pairwise.sublist (List.take_sublist _ _) hd
  rw [take_snoc xs i hi] at h1
  unfold Diff at h1
  rw [List.pairwise_append] at h1
  have hm : xs.getD k 0 ∈ xs.take i := by
    have := getD_mem (xs.take i) k (by rw [List.length_take]; omega)
    rwa [getD_take, if_pos hk] at this
  exact h1.2.2 _ hm _ (by simp) h.symm
/-- The first k numbers but that at place i. -/
def oth (xs : List Nat) (i k : Nat) : List Nat := ((List.range k).filter fun j => j != i).map fun j => xs.getD j 0
theorem oth_at (xs : List Nat) (i : Nat) : oth xs i (i + 1) = oth xs i i := by
  unfold oth; rw [List.range_succ, List.filter_append, List.map_append]; simp
theorem oth_off (xs : List Nat) (i k : Nat) (h : k ≠ i) : oth xs i (k + 1) = oth xs i k ++ [xs.getD k 0] := by
  unfold oth; rw [List.range_succ, List.filter_append, List.map_append]; simp [h]
theorem oth_len (xs : List Nat) (i : Nat) : ∀ k, (oth xs i k).length = if i < k then k - 1 else k := by
  intro k
  induction k with
  | zero => rfl
  | succ k ih =>
    by_cases e : k = i
    · subst e; rw [oth_at, ih, if_neg (by omega), if_pos (by omega)]; omega
    · rw [oth_off xs i k e, List.length_append, ih, List.length_singleton]; split <;> split <;> omega
theorem oth_mem (xs : List Nat) (i k y : Nat) : y ∈ oth xs i k ↔ ∃ j, j < k ∧ j ≠ i ∧ xs.getD j 0 = y := by
  unfold oth
  simp [List.mem_map, List.mem_filter, and_assoc]
theorem oth_le (xs : List Nat) (hU : ∀ x ∈ xs, x ≤ 18446744073709551615) (i k : Nat) : ∀ y ∈ oth xs i k, y ≤ 18446744073709551615 := fun y hy => by
  obtain ⟨j, _, _, rfl⟩ := (oth_mem xs i k y).1 hy
  exact bdL xs hU j
/-- What Through has summed after i points. -/
def thA (f : Int) (xs ys : List Nat) : Nat → List Nat
  | 0 => []
  | i + 1 => addL f (thA f xs ys i) (scaleF f (vanL f (oth xs i xs.length)) (divF f (ys.getD i 0) (evF f (vanL f (oth xs i xs.length)) (xs.getD i 0))))
theorem scaleF_len (f : Int) (l : List Nat) (s : Nat) : (scaleF f l s).length ≤ l.length := by
  unfold scaleF
  have := normF_len f (l.map fun x => mulF f x s)
  rwa [List.length_map] at this
theorem addL_len (f : Int) (l m : List Nat) : (addL f l m).length ≤ max l.length m.length := by
  unfold addL
  have := normF_len f ((List.range (max l.length m.length)).map fun i => addF f (l.getD i 0) (m.getD i 0))
  rwa [List.length_map, List.length_range] at this
theorem thA_len (f : Int) (xs ys : List Nat) : ∀ i, i ≤ xs.length → (thA f xs ys i).length ≤ xs.length := by
  intro i
  induction i with
  | zero => intro _; exact Nat.zero_le _
  | succ i ih =>
    intro h
    have h1 := ih (by omega)
    have h2 := scaleF_len f (vanL f (oth xs i xs.length)) (divF f (ys.getD i 0) (evF f (vanL f (oth xs i xs.length)) (xs.getD i 0)))
    rw [vanL_len, oth_len, if_pos (by omega)] at h2
    have h3 := addL_len f (thA f xs ys i) (scaleF f (vanL f (oth xs i xs.length)) (divF f (ys.getD i 0) (evF f (vanL f (oth xs i xs.length)) (xs.getD i 0))))
    unfold thA
    omega
theorem thA_val {f : Int} (hv : validB f = true) (xs ys : List Nat) (hd : Diff f xs) : ∀ i, i ≤ xs.length → ∀ j, j < xs.length → evF f (thA f xs ys i) (xs.getD j 0) = if j < i then ys.getD j 0 % pOf f else 0 := by
  have hp := (valid_iff f).1 hv
  intro i
  induction i with
  | zero =>
    intro _ j hj
    rw [if_neg (by omega)]
    unfold thA
    rw [evF_pos _ _ hp]; show 0 % _ = 0; exact Nat.zero_mod _
  | succ i ih =>
    intro hi j hj
    have hih := ih (by omega) j hj
    unfold thA
    rw [val_add hv, val_scale hv, hih]
    by_cases e : j = i
    · subst e
      rw [if_neg (Nat.lt_irrefl j), if_pos (Nat.lt_succ_self j)]
      have hne : evF f (vanL f (oth xs j xs.length)) (xs.getD j 0) ≠ 0 := fun h => by
        obtain ⟨y, hy, h2⟩ := (vanL_zero hv _ _).1 h
        obtain ⟨k, hk, hkj, rfl⟩ := (oth_mem xs j xs.length y).1 hy
        rcases Nat.lt_or_ge k j with h3 | h3
        · exact Diff.not hj h3 h2.symm hd
        · exact Diff.not hk (by omega : j < k) h2 hd
      have hmc : mulF f (evF f (vanL f (oth xs j xs.length)) (xs.getD j 0)) (divF f (ys.getD j 0) (evF f (vanL f (oth xs j xs.length)) (xs.getD j 0))) = ys.getD j 0 % pOf f := by
        have h4 := div_mul f (evF f (vanL f (oth xs j xs.length)) (xs.getD j 0)) (ys.getD j 0) hv (by rw [Nat.mod_eq_of_lt (evF_lt _ _ hp)]; exact hne)
        rw [mulF_pos _ _ _ hp] at h4 ⊢
        rw [Nat.mul_comm]; exact h4
      rw [hmc, addF_pos _ _ _ hp, Nat.zero_add, Nat.mod_mod]
    · have hz : evF f (vanL f (oth xs i xs.length)) (xs.getD j 0) = 0 := (vanL_zero hv _ _).2 ⟨xs.getD j 0, (oth_mem _ _ _ _).2 ⟨j, hj, e, rfl⟩, rfl⟩
      rw [hz, mulF_pos _ _ _ hp, Nat.zero_mul, Nat.zero_mod, addF_pos _ _ _ hp, Nat.add_zero]
      by_cases c : j < i
      · rw [if_pos c, if_pos (by omega), Nat.mod_mod]
      · rw [if_neg c, if_neg (by omega), Nat.zero_mod]
theorem thA_norm {f : Int} (hv : validB f = true) (xs ys : List Nat) (i : Nat) : normF f (thA f xs ys i) = thA f xs ys i := by
  have hp := (valid_iff f).1 hv
  cases i with
  | zero => exact normF_id hp (.inl rfl) (by simp [thA])
  | succ i => unfold thA addL; exact normF_id hp (normF_norm _ _) (normF_lt _ _ hp)
theorem thA_done {f : Int} (hv : validB f = true) (xs ys : List Nat) (hx : ∀ x ∈ xs, x ≤ 18446744073709551615) (hy : ∀ x ∈ ys, x ≤ 18446744073709551615) (hd : Diff f xs) : thA f xs ys xs.length = thruL f (ptsL xs ys hx hy) := by
  rw [← thA_norm hv]
  refine thruL_only hv (one_ok hv ys hx hy hd) _ (by rw [ptsL_len]; exact thA_len f xs ys _ (Nat.le_refl _)) fun p hpm => ?_
  obtain ⟨j, hj, rfl⟩ := (ptsL_mem _ _ hx hy p).1 hpm
  show evF f (thA f xs ys xs.length) (xs.getD j 0) = ys.getD j 0 % pOf f
  rw [thA_val hv xs ys hd _ (Nat.le_refl _) j hj, if_pos hj]
end Go.Proofs.YtiibcfajcndcnaaDoor
