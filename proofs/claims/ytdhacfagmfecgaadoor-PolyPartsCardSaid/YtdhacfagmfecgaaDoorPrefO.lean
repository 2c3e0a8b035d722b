/- The document's own answers for polynomials: Scale, Add, Eval: what each call returns. -/
import Derived.Test.YtdhacfagmfecgaaDoorPrefN
import Derived.Test.YtdhacfagmfecgaaDoorPvalM
namespace Go.Proofs.YtdhacfagmfecgaaDoor
open Go.RowKit
set_option linter.unusedVariables false

set_option maxHeartbeats 1000000 in
theorem rscale_any (f : Int) (l : List Nat) (s : Nat) (v : Value) (w : World) (hT : Tab w) (hR : Reads w v l) (hl : l.length ≤ 1000) (hs : s ≤ 18446744073709551615) :
    Calls Tryd.prog 16 #[.int .i64 f, v, .int .u64 (s : Int)] w fun e w' => (∃ u, e = .returned u ∧ Ow w.heap.size w' u (scaleF f l s)) ∧ On w w' := by
  obtain ⟨a, cap, rfl⟩ := hR.shape
  have HR := Lib.hid hR; have H0 := Lib.hid (On.refl hT)
  obtain ⟨M, hM⟩ : ∃ M, M = l.map (fun x => mulF f x s) := ⟨_, rfl⟩
  have HML : Hid (M.length = l.length) := by unfold Hid; rw [hM]; simp
  have HN : Hid (normF f M = scaleF f l s) := by unfold Hid; rw [hM]; rfl
  have HS : Hid (∀ k, k < l.length → M.take k ++ [mulF f (l.getD k 0) s] = M.take (k + 1)) := fun k hk => by rw [hM, ← List.map_take, ← List.map_take]; exact take_map_snoc (fun x => mulF f x s) _ _ hk
  have HB : Hid (∀ x ∈ M, x ≤ 18446744073709551615) := fun x hx => by
    rw [hM] at hx
    obtain ⟨y, _, rfl⟩ := List.mem_map.1 hx
    have := mulF_le f y s; omega
  clear hR hT hM
  generalize hn : l.length = n at *
  have HNL := Lib.hid hn; clear hn
  go_enter Tryd.func16, Tryd.ntmps16
  go_wp2_with fail
  go_loopw [7, 8] (fun vo vi wr => ∃ (k : Nat) (ao : Option Addr) (co : Nat), k ≤ n ∧ vi = .int .i64 (k : Int) ∧ vo = .slice ao k co ∧ Hid (On w wr ∧ Ow w.heap.size wr (.slice ao k co) (M.take k))) (fun _ vi _ => n - (intOf vi).toNat)
  case atStart => exact ⟨0, none, 0, Nat.zero_le _, rfl, rfl, H0.out, Ow.nil _ _⟩
  case round =>
    rename World => wr
    obtain ⟨k, ao, co, hk, rfl, rfl, HI⟩ := hrel
    by_cases hlt : k < n
    · obtain ⟨-, hcx⟩ := reads_opt (HR.out.on HI.out.1)
      obtain ⟨bX, oX, rfl, hcell⟩ := hcx k (by rw [HNL.out]; exact hlt)
      have hxb := HR.out.1 _ (getD_mem l k (by rw [HNL.out]; exact hlt))
      have HSK := Lib.hid (HS.out k hlt)
      clear hcx
      generalize l.getD k 0 = x at *
      go_wp2_with fail
      refine (rmul_any f x s _ hxb hs).mono ?_
      rintro e w' ⟨rfl, q, rfl⟩
      obtain ⟨v', w3, hrun, ho, hg, -⟩ := append_own w.heap.size (mulF f x s) _ rfl _ _ (wr.drewN q) _ rfl (HI.out.2.drewN q) (by have := HI.out.1.size; simpa using this) (by rw [List.length_take]; omega)
      obtain ⟨av2, cv2, rfl⟩ := ho.shape
      rw [HSK.out] at ho
      have hll : (M.take k ++ [mulF f x s]).length = k + 1 := by rw [HSK.out, List.length_take, HML.out]; omega
      rw [HSK.out] at hll hrun
      rw [hll] at hrun ho
      have HRUN := Lib.hid hrun; have HOO := Lib.hid ho
      have HON2 := Lib.hid ((HI.out.1.drewN q).grown (Nat.le_refl _) (HI.out.2.drewN q) hg)
      clear hrun ho hg hll
      go_wp2_with (at_builtin; refine wp_append2 rfl (.tmp 15) (.tmp 23) _ _ rfl _ _ _ rfl rfl HRUN.out ?_)
      go_roundw
      case rel => exact ⟨k + 1, av2, cv2, by omega, by go_num, rfl, HON2.out, HOO.out⟩
      case measure => simp [intOf]; omega
    · obtain rfl : k = n := by omega
      have hw2 := HI.out.2
      rw [List.take_of_length_le (by rw [HML.out]; exact Nat.le_refl _)] at hw2
      have HOW := Lib.hid hw2
      have HON := Lib.hid HI.out.1
      clear hw2 HI
      go_wp2_with fail
      refine (rnorm_any f M _ wr HON.out.tab (HOW.out.reads HB.out) (by rw [HML.out]; omega)).mono ?_
      rintro e w' ⟨⟨u, rfl, hu⟩, hO1⟩
      rw [HN.out] at hu
      have HU : Hid (Ow w.heap.size w' u (scaleF f l s)) := by
        have hs := HON.out.size
        rcases hu.cases with ⟨e1, rfl⟩ | ⟨g, c, rfl, hb, hR⟩
        · unfold Hid; rw [e1]; exact Ow.nil _ _
        · exact Ow.of_row hR (by omega)
      have HO := Lib.hid (HON.out.trans hO1)
      clear hu hO1
      go_wp2
      go_ret
      exact ⟨⟨_, rfl, HU.out⟩, HO.out⟩
theorem Ow.mono {B C : Nat} {w : World} {v : Value} {l : List Nat} (h : Ow B w v l) (k : C ≤ B) : Ow C w v l := by
  rcases h.cases with ⟨rfl, rfl⟩ | ⟨g, c, rfl, hb, hR⟩
  · exact Ow.nil _ _
  · exact Ow.of_row hR (by omega)
set_option maxHeartbeats 1000000 in
theorem raddp_any (f : Int) (l m : List Nat) (v v' : Value) (w : World) (hT : Tab w) (hR : Reads w v l) (hR' : Reads w v' m) (hl : l.length ≤ 1000) (hm : m.length ≤ 1000) :
    Calls Tryd.prog 12 #[.int .i64 f, v, v'] w fun e w' => (∃ u, e = .returned u ∧ Ow w.heap.size w' u (addL f l m)) ∧ On w w' := by
  obtain ⟨a, cap, rfl⟩ := hR.shape
  obtain ⟨a', cap', rfl⟩ := hR'.shape
  have HR := Lib.hid hR; have HR' := Lib.hid hR'; have H0 := Lib.hid (On.refl hT)
  obtain ⟨N, hN⟩ : ∃ N, N = max l.length m.length := ⟨_, rfl⟩
  have HND : Hid (addL f l m = normF f ((List.range N).map fun i => addF f (l.getD i 0) (m.getD i 0))) := by unfold Hid; rw [hN]; rfl
  have hNb : N ≤ 1000 := by omega
  have hNl : l.length ≤ N := by omega
  have hNm : m.length ≤ N := by omega
  have HNX : Hid (∀ k, k < N → k < l.length ∨ k < m.length) := fun k hk => by omega
  have HS : Hid (∀ k, (List.range k).map (fun i => addF f (l.getD i 0) (m.getD i 0)) ++ [addF f (l.getD k 0) (m.getD k 0)] = (List.range (k + 1)).map fun i => addF f (l.getD i 0) (m.getD i 0)) := fun k => by rw [List.range_succ, List.map_append]; rfl
  have HB : Hid (∀ k, ∀ x ∈ (List.range k).map (fun i => addF f (l.getD i 0) (m.getD i 0)), x ≤ 18446744073709551615) := fun k x hx => by
    obtain ⟨y, _, rfl⟩ := List.mem_map.1 hx
    have := addF_le f (l.getD y 0) (m.getD y 0); omega
  have HBL := Lib.hid (bdL l hR.1); have HBM := Lib.hid (bdL m hR'.1)
  clear hR hR' hT hN
  generalize hn : l.length = n at *
  have HNL := Lib.hid hn; clear hn
  generalize hn2 : m.length = n2 at *
  have HNL2 := Lib.hid hn2; clear hn2
  go_enter Tryd.func12, Tryd.ntmps12
  go_wp2_with fail
  go_loopw [7, 8] (fun vo vi wr => ∃ (k : Nat) (ao : Option Addr) (co : Nat), k ≤ N ∧ vi = .int .i64 (k : Int) ∧ vo = .slice ao k co ∧ Hid (On w wr ∧ Ow w.heap.size wr (.slice ao k co) ((List.range k).map fun i => addF f (l.getD i 0) (m.getD i 0)))) (fun _ vi _ => N - (intOf vi).toNat)
  case atStart => exact ⟨0, none, 0, Nat.zero_le _, rfl, rfl, H0.out, Ow.nil _ _⟩
  case round =>
    rename World => wr
    obtain ⟨k, ao, co, hk, rfl, rfl, HI⟩ := hrel
    by_cases hlt : k < N
    · have hor := HNX.out k hlt
      have HC1 := Lib.hid (rcoef_any l k _ wr (HR.out.on HI.out.1) (by omega))
      have HC2 := Lib.hid (rcoef_any m k _ wr (HR'.out.on HI.out.1) (by omega))
      have hb1 := HBL.out k; have hb2 := HBM.out k
      have HSK := Lib.hid (HS.out k)
      generalize hx : l.getD k 0 = x at *
      generalize hy : m.getD k 0 = y at *
      have HXX := Lib.hid hx; have HYY := Lib.hid hy
      clear hx hy
      have go : k < n ∨ (¬ k < n ∧ k < n2) := by omega
      clear hor
      rcases go with h1 | ⟨h1, h2⟩
      all_goals
        go_wp2_with fail
        refine HC1.out.mono ?_
        rintro e w' ⟨rfl, rfl⟩
        go_wp2_with fail
        refine HC2.out.mono ?_
        rintro e w' ⟨rfl, rfl⟩
        go_wp2_with fail
        refine (radd_any f x y _ hb1 hb2).mono ?_
        rintro e w' ⟨rfl, q, rfl⟩
        obtain ⟨v', w3, hrun, ho, hg, -⟩ := append_own w.heap.size (addF f x y) _ rfl _ _ (wr.drewN q) _ rfl (HI.out.2.drewN q) (by have := HI.out.1.size; simpa using this) (by simp; omega)
        obtain ⟨av2, cv2, rfl⟩ := ho.shape
        rw [HSK.out] at ho
        have hll : ((List.range (k + 1)).map fun i => addF f (l.getD i 0) (m.getD i 0)).length = k + 1 := by simp
        rw [HSK.out] at hrun
        rw [hll] at hrun ho
        have HRUN := Lib.hid hrun; have HOO := Lib.hid ho
        have HON2 := Lib.hid ((HI.out.1.drewN q).grown (Nat.le_refl _) (HI.out.2.drewN q) hg)
        clear hrun ho hg hll
        go_wp2_with (at_builtin; refine wp_append2 rfl (.tmp 21) (.tmp 30) _ _ rfl _ _ _ rfl rfl HRUN.out ?_)
        go_roundw
        case rel => exact ⟨k + 1, av2, cv2, by omega, by go_num, rfl, HON2.out, HOO.out⟩
        case measure => simp [intOf]; omega
    · obtain rfl : k = N := by omega
      have HOW := Lib.hid HI.out.2
      have HON := Lib.hid HI.out.1
      have h1 : ¬ k < n := by omega
      have h2 : ¬ k < n2 := by omega
      clear HI
      go_wp2_with fail
      refine (rnorm_any f _ _ wr HON.out.tab (HOW.out.reads (HB.out k)) (by simp; omega)).mono ?_
      rintro e w' ⟨⟨u, rfl, hu⟩, hO1⟩
      rw [← HND.out] at hu
      have HU := Lib.hid (hu.mono HON.out.size)
      have HO := Lib.hid (HON.out.trans hO1)
      clear hu hO1
      go_wp2
      go_ret
      exact ⟨⟨_, rfl, HU.out⟩, HO.out⟩
theorem reval_step (f : Int) (l : List Nat) (x k : Nat) (hk : k < l.length) : addF f (evF f (l.take k) x) (mulF f (l.getD k 0) (powC f x k)) = evF f (l.take (k + 1)) x := by
  rcases Nat.eq_zero_or_pos (pOf f) with hp | hp
  · rw [evF_zero _ _ hp, addF_zero _ _ _ hp, evF_zero _ _ hp]
  · rw [take_snoc l k hk, evF_pos _ _ hp, evF_pos _ _ hp, addF_modL, E_snoc, List.length_take, Nat.min_eq_left (Nat.le_of_lt hk), addF_pos _ _ _ hp, mulF_pos _ _ _ hp, Nat.add_mod_mod]
    unfold powC
    by_cases h : k = 0
    · rw [if_pos h, h, Nat.pow_zero]
    · rw [if_neg h, powF_pos _ _ _ hp, Nat.add_mod, Nat.mul_mod_mod, ← Nat.add_mod]
set_option maxHeartbeats 1000000 in
theorem reval_any (f : Int) (l : List Nat) (x : Nat) (v : Value) (w : World) (hR : Reads w v l) (hx : x ≤ 18446744073709551615) :
    Calls Tryd.prog 18 #[.int .i64 f, v, .int .u64 (x : Int)] w fun e w' => e = .returned (.int .u64 ((evF f l x : Nat) : Int)) ∧ ∃ k, w' = w.drewN k := by
  obtain ⟨a, cap, rfl⟩ := hR.shape
  have hlb := hR.2.1
  have HR := Lib.hid hR
  have HS := Lib.hid (reval_step f l x)
  have HE0 : Hid (evF f (l.take 0) x = 0) := by unfold Hid evF; split; rfl; show 0 % _ = 0; simp
  have HFN : Hid (l.take l.length = l) := List.take_length
  clear hR
  generalize hn : l.length = n at *
  have HNL := Lib.hid hn; clear hn
  go_enter Tryd.func18, Tryd.ntmps18
  go_wp2_with fail
  go_loopw [7, 8, 9] (fun vs vp vi wr => ∃ k q : Nat, k ≤ n ∧ vi = .int .i64 (k : Int) ∧ vp = .int .u64 ((powC f x k : Nat) : Int) ∧ vs = .int .u64 ((evF f (l.take k) x : Nat) : Int) ∧ Hid (wr = w.drewN q)) (fun _ _ vi _ => n - (intOf vi).toNat)
  case atStart => exact ⟨0, 0, Nat.zero_le _, rfl, rfl, by rw [HE0.out]; rfl, rfl⟩
  case round =>
    rename World => wr
    obtain ⟨k, q, hk, rfl, rfl, rfl, HW⟩ := hrel
    by_cases hlt : k < n
    · have hrd : Reads wr (.slice a n cap) l := by rw [HW.out]; exact HR.out.drewN q
      obtain ⟨-, hcx⟩ := reads_opt hrd
      obtain ⟨bX, oX, rfl, hcell⟩ := hcx k (by rw [HNL.out]; exact hlt)
      have hxb := hrd.1 _ (getD_mem l k (by rw [HNL.out]; exact hlt))
      have HSK := Lib.hid (HS.out k hlt)
      have hpc := powC_le f x k; have HPC := Lib.hid (powC_succ f x k)
      have hev := evF_le f (l.take k) x
      clear hcx hrd
      generalize l.getD k 0 = y at *
      generalize hE : evF f (l.take k) x = Ek at *
      have HE := Lib.hid hE; clear hE
      generalize hP : powC f x k = Pk at *
      have HP := Lib.hid hP; clear hP
      have hmu := mulF_le f y Pk
      go_wp2_with fail
      refine (rmul_any f y Pk _ hxb (by omega)).mono ?_
      rintro e w' ⟨rfl, q1, rfl⟩
      go_wp2_with fail
      refine (radd_any f Ek (mulF f y Pk) _ (by omega) (by omega)).mono ?_
      rintro e w' ⟨rfl, q2, rfl⟩
      go_wp2_with fail
      refine (rmul_any f Pk x _ (by omega) hx).mono ?_
      rintro e w' ⟨rfl, q3, rfl⟩
      go_wp2_with fail
      go_roundw
      case rel => exact ⟨k + 1, q + q1 + q2 + q3, by omega, by go_num, by rw [HPC.out], by rw [HSK.out], by unfold Hid; rw [HW.out]; simp only [World.drewN_drewN]; congr 1; omega⟩
      case measure => simp [intOf]; omega
    · obtain rfl : k = n := by omega
      rw [HFN.out]
      go_wp2
      go_ret
      exact ⟨rfl, q, HW.out⟩
end Go.Proofs.YtdhacfagmfecgaaDoor
