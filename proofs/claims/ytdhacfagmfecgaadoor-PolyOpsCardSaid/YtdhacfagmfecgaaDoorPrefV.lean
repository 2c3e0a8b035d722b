/- The document's own answers for polynomials: Shift, Degree, Mul without a field: what each call returns. -/
import Derived.Test.YtdhacfagmfecgaaDoorPrefU
import Derived.Test.YtdhacfagmfecgaaDoorQtail
import Derived.Deep.RegionHeld3
namespace Go.Proofs.YtdhacfagmfecgaaDoor
open Go.RowKit
set_option linter.unusedVariables false

theorem getD_rangeN (g : Nat → Nat) (n k : Nat) (h : k < n) : ((List.range n).map g).getD k 0 = g k := by rw [getD_range, if_pos h]
set_option maxHeartbeats 1000000 in
theorem rshift_any (f : Int) (l : List Nat) (s : Nat) (v : Value) (w : World) (hT : Tab w) (hR : Reads w v l) (hl : l.length ≤ 1000) (hs : s ≤ 18446744073709551615) :
    Calls Tryd.prog 20 #[.int .i64 f, v, .int .u64 (s : Int)] w fun e w' => (∃ u, e = .returned u ∧ Ow w.heap.size w' u (shiftF f l s)) ∧ On w w' := by
  obtain ⟨a, cap, rfl⟩ := hR.shape
  have HR := Lib.hid hR; have H0 := Lib.hid (On.refl hT)
  obtain ⟨M, hM⟩ : ∃ M, M = (List.range l.length).map (fun i => mulF f (l.getD i 0) (powF f s i)) := ⟨_, rfl⟩
  have HML : Hid (M.length = l.length) := by unfold Hid; rw [hM]; simp
  have HN : Hid (normF f M = shiftF f l s) := by unfold Hid; rw [hM]; rfl
  have HS : Hid (∀ k, k < l.length → M.take k ++ [mulF f (l.getD k 0) (powF f s k)] = M.take (k + 1)) := fun k hk => by rw [take_snoc M k (by rw [HML.out]; exact hk), hM, getD_rangeN _ _ _ hk]
  have HB : Hid (∀ x ∈ M, x ≤ 18446744073709551615) := fun x hx => by
    rw [hM] at hx
    obtain ⟨y, _, rfl⟩ := List.mem_map.1 hx
    have := mulF_le f (l.getD y 0) (powF f s y); omega
  clear hR hT hM
  generalize hn : l.length = n at *
  have HNL := Lib.hid hn; clear hn
  go_enter Tryd.func20, Tryd.ntmps20
  go_wp2_with fail
  go_loopw [7, 8] (fun vo vi wr => ∃ (k : Nat) (ao : Option Addr) (co : Nat), k ≤ n ∧ vi = .int .i64 (k : Int) ∧ vo = .slice ao k co ∧ Hid (On w wr ∧ Ow w.heap.size wr (.slice ao k co) (M.take k))) (fun _ vi _ => n - (intOf vi).toNat)
  case atStart => exact ⟨0, none, 0, Nat.zero_le _, rfl, rfl, H0.out, Ow.nil _ _⟩
  case round =>
    rename World => wr
    obtain ⟨k, ao, co, hk, rfl, rfl, HI⟩ := hrel
    by_cases hlt : k < n
    · obtain ⟨-, hcx⟩ := reads_opt (HR.out.on HI.out.1)
      obtain ⟨bX, oX, rfl, hcell⟩ := hcx k (by rw [HNL.out]; exact hlt)
      have hxb := HR.out.1 _ (getD_mem l k (by rw [HNL.out]; exact hlt))
      have HSK := Lib.hid (HS.out k hlt)
      have hpw := powF_le f s k
      have hwk : IntKind.u64.wrap (k : Int) = (k : Int) := IntWalk.u64_in _ (by omega)
      have HPW : Hid (∀ W, _) := fun W => rpow_all f s k W (by omega) (by omega)
      have HML2 : Hid (∀ W, _) := fun W => rmul_any f (l.getD k 0) (powF f s k) W hxb (by omega)
      have HLL : Hid ((M.take k ++ [mulF f (l.getD k 0) (powF f s k)]).length = k + 1) := by unfold Hid; rw [HSK.out, List.length_take, HML.out]; omega
      have HCC : Hid (∀ W, On w W → W.cell? ⟨bX, oX + k, none⟩ = some (.int .u64 ((l.getD k 0 : Nat) : Int))) := fun W hW => by
        obtain ⟨-, hcx⟩ := reads_opt (HR.out.on hW)
        obtain ⟨b', o', h1, h2⟩ := hcx k (by rw [HNL.out]; exact hlt)
        simp only [Option.some.injEq, Addr.mk.injEq, and_true] at h1
        obtain ⟨rfl, rfl⟩ := h1
        exact h2
      have HAP : ∀ W : World, ∃ (t : Option Addr × Nat × World), Drawn wr W → (∀ ty, (Builtin.append_ #[22, 22] ty #[.slice ao k co, .slice (some ⟨W.heap.size, 0, none⟩) 1 1]).run Tryd.prog (W.alloc (.cells #[.int .u64 ((mulF f (l.getD k 0) (powF f s k) : Nat) : Int)] 23)) = .ok (.slice t.1 (k + 1) t.2.1) t.2.2) ∧
          Ow w.heap.size t.2.2 (.slice t.1 (k + 1) t.2.1) (M.take (k + 1)) ∧ On w t.2.2 := fun W => by
        by_cases hd : Drawn wr W
        · obtain ⟨q, rfl⟩ := hd
          obtain ⟨v', w3, hrun, ho, hg, -⟩ := append_own w.heap.size (mulF f (l.getD k 0) (powF f s k)) _ rfl _ _ (wr.drewN q) _ rfl (HI.out.2.drewN q) (by have := HI.out.1.size; simpa using this) (by rw [List.length_take]; omega)
          obtain ⟨av2, cv2, rfl⟩ := ho.shape
          rw [HLL.out] at hrun ho
          rw [HSK.out] at ho
          exact ⟨(av2, cv2, w3), fun _ => ⟨hrun, ho, (HI.out.1.drewN q).grown (Nat.le_refl _) (HI.out.2.drewN q) hg⟩⟩
        · exact ⟨(none, 0, W), fun h => absurd h hd⟩
      obtain ⟨T, HAP⟩ := Classical.axiomOfChoice HAP
      have HAP := Lib.hid HAP
      have HOW := Lib.hid HI.out.1
      clear HSK HLL
      generalize l.getD k 0 = x at *
      generalize powF f s k = pw at *
      have HD0 : Hid (Drawn wr wr.drew) := ⟨1, rfl⟩
      have hk0 : (0 : Int) ≤ (k : Int) := by omega
      have hkn : (k : Int) < (l.length : Int) := by have := HNL.out; omega
      have hkt : (k : Int).toNat = k := by omega
      rw [HNL.out] at hkn
      go_wp2_with fail
      go_region_held3 (fun w' => w'.cell? ⟨bX, oX + k, none⟩ = some (.int .u64 (x : Int))) (first | assumption | exact HCC.out _ HOW.out | exact HCC.out _ (HD0.out.on HOW.out) | exact HCC.out _ ((HD6.out.on HOW.out).alloc _)) (first
        | (go_at_call 44; refine (HPW.out _).mono ?_; rintro e w5 ⟨rfl, hd⟩; have HD5 := Lib.hid (HD0.out.trans hd); have hc5 := HCC.out w5 (HD5.out.on HOW.out); clear hd)
        | (go_at_call 43; refine (HML2.out _).mono ?_; rintro e w6 ⟨rfl, hd⟩; have HD6 := Lib.hid (HD5.out.trans hd); have hc6 := HCC.out w6 (HD6.out.on HOW.out); clear hd)
        | (refine step_append2 (w' := (T w6).2.2) rfl (.tmp 15) (.tmp 27) _ _ rfl (.slice ao k co) (.slice (some ⟨w6.heap.size, 0, none⟩) 1 1) (.slice (T w6).1 (k + 1) (T w6).2.1) rfl rfl (fun ty => by with_reducible exact (HAP.out w6 HD6.out).1 ty) ?_; have hc7 := HCC.out _ (HAP.out w6 HD6.out).2.2))
      all_goals
        have HF := Lib.hid (HAP.out w6 HD6.out).2
        go_wp2_with fail
        go_roundw
        case rel => exact ⟨k + 1, _, _, by omega, by go_num, rfl, HF.out.2, HF.out.1⟩
        case measure => simp [intOf]; omega
    · obtain rfl : k = n := by omega
      have hw2 := HI.out.2
      rw [List.take_of_length_le (by rw [HML.out]; exact Nat.le_refl _)] at hw2
      have HOW := Lib.hid hw2
      have HON := Lib.hid HI.out.1
      clear hw2 HI
      go_wp2_with fail
      refine (rnorm_any f M _ wr HON.out.tab (HOW.out.reads HB.out) (by rw [HML.out]; omega)).mono ?_
      rintro e w' ⟨⟨u, rfl, hu⟩, hO1⟩
      rw [HN.out] at hu
      have HU : Hid (Ow w.heap.size w' u (shiftF f l s)) := hu.mono HON.out.size
      have HO := Lib.hid (HON.out.trans hO1)
      clear hu hO1
      go_wp2
      go_ret
      exact ⟨⟨_, rfl, HU.out⟩, HO.out⟩
theorem rdegree_any (f : Int) (l : List Nat) (v : Value) (w : World) (hT : Tab w) (hR : Reads w v l) (hl : l.length ≤ 1000) :
    Calls Tryd.prog 10 #[.int .i64 f, v] w fun e w' => e = .returned (.int .i64 (((normF f l).length : Int) - 1)) ∧ On w w' := by
  have HN := Lib.hid (rnorm_any f l v w hT hR hl)
  have hnl := normF_len f l
  clear hT hR
  go_enter Tryd.func10, Tryd.ntmps10
  go_wp2_with fail
  refine HN.out.mono ?_
  rintro e w' ⟨⟨u, rfl, hu⟩, hO1⟩
  obtain ⟨a, c, rfl⟩ := hu.shape
  have HO := Lib.hid hO1
  clear hu hO1 HN
  go_wp2
  go_ret
  exact ⟨rfl, HO.out⟩
theorem rmulp_no (f : Int) (v v' : Value) (w : World) (hv : validB f = false) :
    Calls Tryd.prog 22 #[.int .i64 f, v, v'] w fun e w' => e = .returned (.tuple #[.slice none 0 0, .int .i64 1]) ∧ w = w' := by
  have HV := Lib.hid hv; clear hv
  go_enter Tryd.func22, Tryd.ntmps22
  go_wp2_with (go_at_call 34; refine (rvalid_any _ _).mono ?_; rintro e w' ⟨rfl, rfl⟩; rw [HV.out])
  go_ret2
  exact ⟨rfl, rfl⟩
theorem rdivide_no (f : Int) (v v' : Value) (w : World) (hv : validB f = false) :
    Calls Tryd.prog 24 #[.int .i64 f, v, v'] w fun e w' => e = .returned (.tuple #[.slice none 0 0, .slice none 0 0, .int .i64 1]) ∧ w = w' := by
  have HV := Lib.hid hv; clear hv
  go_enter Tryd.func24, Tryd.ntmps24
  go_wp2_with (go_at_call 34; refine (rvalid_any _ _).mono ?_; rintro e w' ⟨rfl, rfl⟩; rw [HV.out])
  go_ret3
  exact ⟨rfl, rfl⟩
end Go.Proofs.YtdhacfagmfecgaaDoor
