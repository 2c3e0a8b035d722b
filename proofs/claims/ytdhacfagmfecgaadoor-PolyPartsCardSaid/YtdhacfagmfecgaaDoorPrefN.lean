/- The document's own answers for polynomials: Normal, coefficient, Scale, Add, Sub, Eval: what each call returns. -/
import Derived.Test.YtdhacfagmfecgaaDoorPrefB
import Derived.Test.YtdhacfagmfecgaaDoorPown
import Derived.Test.YtdhacfagmfecgaaDoorPwalkD
namespace Go.Proofs.YtdhacfagmfecgaaDoor
open Go.RowKit
set_option linter.unusedVariables false

theorem take_map_snoc (g : Nat → Nat) (l : List Nat) (k : Nat) (h : k < l.length) : (l.take k).map g ++ [g (l.getD k 0)] = (l.take (k + 1)).map g := by
  rw [take_snoc l k h, List.map_append]; rfl
theorem Ow.shorter {B : Nat} {w : World} {v : Value} {l : List Nat} {a : Option Addr} {n c : Nat} (h : Ow B w (.slice a n c) l) (k : Nat) (hk : k ≤ l.length) : Ow B w (.slice a k c) (l.take k) := by
  have hkl : (l.take k).length = k := by rw [List.length_take]; omega
  rcases h.cases with ⟨rfl, e⟩ | ⟨g, cap, e, hb, hR⟩
  · simp only [Value.slice.injEq] at e
    obtain ⟨rfl, rfl, rfl⟩ := e
    obtain rfl : k = 0 := by simpa using hk
    exact Ow.nil _ _
  · simp only [Value.slice.injEq] at e
    obtain ⟨rfl, rfl, rfl⟩ := e
    obtain ⟨cur, hg, h1, h2, h3, h4⟩ := hR.cur
    have := Ow.of_row (B := B) (Row.mk (l := l.take k) hg (by rw [hkl]; omega) h2 h3 (by
      have e1 : cur.toList.take (l.take k).length = (cur.toList.take l.length).take k := by rw [List.take_take, hkl, Nat.min_eq_left hk]
      rw [e1, h4]; unfold nums; rw [List.map_take])) hb
    rw [hkl] at this
    exact this
theorem ow_cap {B : Nat} {w : World} {a : Option Addr} {n c : Nat} {l : List Nat} (h : Ow B w (.slice a n c) l) : n = l.length ∧ n ≤ c ∧ c ≤ 9223372036854775807 := by
  rcases h.cases with ⟨rfl, e⟩ | ⟨g, cap, e, hb, hR⟩
  · simp only [Value.slice.injEq] at e
    obtain ⟨rfl, rfl, rfl⟩ := e
    simp
  · simp only [Value.slice.injEq] at e
    obtain ⟨rfl, rfl, rfl⟩ := e
    exact ⟨rfl, hR.lt.1, hR.lt.2⟩

set_option maxHeartbeats 1000000 in
theorem rnorm_big (f : Int) (l : List Nat) (v : Value) (w : World) (hT : Tab w) (hR : Reads w v l) (hl : l.length ≤ 100000) :
    Calls Tryd.prog 8 #[.int .i64 f, v] w fun e w' => (∃ u, e = .returned u ∧ Ow w.heap.size w' u (normF f l)) ∧ On w w' := by
  cases hv : validB f
  · have HZ := Lib.hid (normF_none f l ((pOf_zero_iff f).2 hv))
    have HV := Lib.hid hv; clear hv
    go_enter Tryd.func8, Tryd.ntmps8
    go_wp2_with (go_at_call 34; refine (rvalid_any _ _).mono ?_; rintro e w' ⟨rfl, rfl⟩; rw [HV.out])
    go_ret
    exact ⟨⟨_, rfl, by rw [HZ.out]; exact Ow.nil _ _⟩, On.refl hT⟩
  · have HV := Lib.hid hv; clear hv
    obtain ⟨a, cap, rfl⟩ := hR.shape
    have HR := Lib.hid hR; have H0 := Lib.hid (On.refl hT)
    obtain ⟨M, hM⟩ : ∃ M, M = l.map (redF f) := ⟨_, rfl⟩
    have HML : Hid (M.length = l.length) := by unfold Hid; rw [hM]; simp
    have HN : Hid (normF f l = strip M) := by unfold Hid; rw [hM]; rfl
    have HS : Hid (∀ k, k < l.length → M.take k ++ [redF f (l.getD k 0)] = M.take (k + 1)) := fun k hk => by rw [hM, ← List.map_take, ← List.map_take]; exact take_map_snoc _ _ _ hk
    have HB : Hid (∀ x ∈ M, x ≤ 18446744073709551615) := fun x hx => by
      rw [hM] at hx
      obtain ⟨y, _, rfl⟩ := List.mem_map.1 hx
      have := redF_le f y; omega
    clear hR hT hM
    generalize hn : l.length = n at *
    have HNL := Lib.hid hn; clear hn
    go_enter Tryd.func8, Tryd.ntmps8
    go_wp2_with (go_at_call 34; refine (rvalid_any _ _).mono ?_; rintro e w' ⟨rfl, rfl⟩; rw [HV.out])
    go_loopw [5, 6] (fun vo vi wr => ∃ (k : Nat) (ao : Option Addr) (co : Nat), k ≤ n ∧ vi = .int .i64 (k : Int) ∧ vo = .slice ao k co ∧ Hid (On w wr ∧ Ow w.heap.size wr (.slice ao k co) (M.take k))) (fun _ vi _ => n - (intOf vi).toNat)
    case atStart => exact ⟨0, none, 0, Nat.zero_le _, rfl, rfl, H0.out, Ow.nil _ _⟩
    case round =>
      rename World => wr
      obtain ⟨k, ao, co, hk, rfl, rfl, HI⟩ := hrel
      by_cases hlt : k < n
      · obtain ⟨-, hcx⟩ := reads_opt (HR.out.on HI.out.1)
        obtain ⟨bX, oX, rfl, hcell⟩ := hcx k (by rw [HNL.out]; exact hlt)
        have hxb := HR.out.1 _ (getD_mem l k (by rw [HNL.out]; exact hlt))
        have HSK := Lib.hid (HS.out k hlt)
        clear hcx
        generalize l.getD k 0 = x at *
        go_wp2_with fail
        refine (rreduce_any f x _ hxb).mono ?_
        rintro e w' ⟨rfl, q, rfl⟩
        obtain ⟨v', w3, hrun, ho, hg, -⟩ := append_own w.heap.size (redF f x) _ rfl _ _ (wr.drewN q) _ rfl (HI.out.2.drewN q) (by have := HI.out.1.size; simpa using this) (by rw [List.length_take]; omega)
        obtain ⟨av2, cv2, rfl⟩ := ho.shape
        rw [HSK.out] at ho
        have hll : (M.take k ++ [redF f x]).length = k + 1 := by rw [HSK.out, List.length_take, HML.out]; omega
        rw [HSK.out] at hll hrun
        rw [hll] at hrun ho
        have HRUN := Lib.hid hrun; have HOO := Lib.hid ho
        have HON2 := Lib.hid ((HI.out.1.drewN q).grown (Nat.le_refl _) (HI.out.2.drewN q) hg)
        clear hrun ho hg hll
        go_wp2_with (at_builtin; refine wp_append2 rfl (.tmp 18) (.tmp 25) _ _ rfl _ _ _ rfl rfl HRUN.out ?_)
        go_roundw
        case rel => exact ⟨k + 1, av2, cv2, by omega, by go_num, rfl, HON2.out, HOO.out⟩
        case measure => simp [intOf]; omega
      · obtain rfl : k = n := by omega
        have hw2 := HI.out.2
        rw [List.take_of_length_le (by rw [HML.out]; exact Nat.le_refl _)] at hw2
        have HOW := Lib.hid hw2
        have HON := Lib.hid HI.out.1
        obtain ⟨-, hkc, hcm⟩ := ow_cap hw2
        clear hw2 HI
        go_wp2_with fail
        go_loop [7] (fun vj => ∃ j : Nat, vj = .int .i64 (j : Int) ∧ j ≤ k ∧ Hid (strip (M.take j) = strip M)) (fun vj => (intOf vj).toNat)
        case atStart => exact ⟨k, rfl, Nat.le_refl _, by unfold Hid; rw [List.take_of_length_le (by rw [HML.out]; exact Nat.le_refl _)]⟩
        case round =>
          obtain ⟨j, rfl, hj, HK⟩ := hrel
          have fin : ∀ j, j ≤ k → strip M = M.take j → Ow w.heap.size wr (.slice ao j co) (normF f l) := fun j hj h => by
            rw [HN.out, h]
            exact Ow.shorter (v := .slice ao k co) HOW.out j (by rw [HML.out]; exact hj)
          have HFIN := Lib.hid fin; clear fin
          cases j with
          | zero =>
            have HZ : Hid (strip M = M.take 0) := by unfold Hid; rw [← HK.out]; rfl
            go_wp2
            go_ret
            exact ⟨⟨_, rfl, HFIN.out 0 (by omega) HZ.out⟩, HON.out⟩
          | succ j =>
            obtain ⟨-, hcx⟩ := reads_opt (HOW.out.reads HB.out)
            obtain ⟨bX, oX, rfl, hcell⟩ := hcx j (by rw [HML.out]; omega)
            have hki : ((j + 1 : Nat) : Int) - 1 = (j : Int) := by omega
            clear hcx
            by_cases hd : M.getD j 0 = 0
            · have HX : Hid (strip (M.take j) = strip M) := by unfold Hid; rw [← HK.out, strip_take_zero M j (by rw [HML.out]; omega) hd]
              rw [hd] at hcell
              clear hd
              go_wp2
              go_round
              case rel => exact ⟨j, by go_num, by omega, HX⟩
              case measure => simp [intOf]
            · have HX : Hid (strip M = M.take (j + 1)) := by unfold Hid; rw [← HK.out, strip_take_len M j (by rw [HML.out]; omega) hd]
              have hd0 : (((M.getD j 0 : Nat) : Int) == 0) = false := by simp only [beq_eq_false_iff_ne, ne_eq]; omega
              clear hd
              generalize M.getD j 0 = y at *
              go_wp2
              go_ret
              exact ⟨⟨_, rfl, HFIN.out (j + 1) (by omega) HX.out⟩, HON.out⟩
theorem rnorm_any (f : Int) (l : List Nat) (v : Value) (w : World) (hT : Tab w) (hR : Reads w v l) (hl : l.length ≤ 1000) :
    Calls Tryd.prog 8 #[.int .i64 f, v] w fun e w' => (∃ u, e = .returned u ∧ Ow w.heap.size w' u (normF f l)) ∧ On w w' := rnorm_big f l v w hT hR (by omega)
theorem rcoef_any (l : List Nat) (i : Nat) (v : Value) (w : World) (hR : Reads w v l) (hi : i ≤ 1000000) :
    Calls Tryd.prog 39 #[v, .int .i64 (i : Int)] w fun e w' => e = .returned (.int .u64 ((l.getD i 0 : Nat) : Int)) ∧ w = w' := by
  obtain ⟨a, cap, rfl⟩ := hR.shape
  by_cases h : i < l.length
  · obtain ⟨-, hcx⟩ := reads_opt hR
    obtain ⟨bX, oX, rfl, hcell⟩ := hcx i h
    have hb := hR.1 _ (getD_mem l i h)
    clear hcx hR
    generalize l.getD i 0 = x at *
    generalize l.length = n at *
    go_enter Tryd.func39, Tryd.ntmps39
    go_wp2
    go_ret
    exact ⟨rfl, rfl⟩
  · rw [getD_over (by omega)]
    clear hR
    generalize l.length = n at *
    go_enter Tryd.func39, Tryd.ntmps39
    go_wp2
    go_ret
    exact ⟨rfl, rfl⟩
end Go.Proofs.YtdhacfagmfecgaaDoor
