/- The law's own call own of stage 9, with where its result lies. -/
import Derived.Test.YtiibcfajcndcnaaDoorKf15
import Derived.Test.YtiibcfajcndcnaaDoorKf05
import Derived.Test.YtiibcfajcndcnaaDoorKg02
import Derived.Test.YtiibcfajcndcnaaDoorKf16
import Derived.Deep.DeepCutAuto
import Derived.Test.YtiibcfajcndcnaaDoorKf18
import Derived.Test.YtiibcfajcndcnaaDoorKf19
/- The law's own call own of stage 9, with where its result lies. -/
namespace Go.Proofs.YtiibcfajcndcnaaDoor
open Go.RowKit
set_option linter.unusedVariables false

/-- own with where its result lies. -/
theorem append_list9 (w : World) (l : List Nat) (oa : Option Addr) (c : Nat) (hT : Tab w) (hR : Reads w (.slice oa l.length c) l) (hk : l.length ≤ 1000000) :
    ∃ a c' w', (∀ ty, (Builtin.append_ #[33, 33] ty #[.slice none 0 0, .slice oa l.length c]).run Tryd.prog w = .ok (.slice a l.length c') w') ∧ Reads w' (.slice a l.length c') l ∧ Shape (.slice a l.length c') l ∧ (∀ G, G < w.heap.size → Off G (.slice a l.length c')) ∧ On w w' := by
  obtain ⟨i0, hi, hz0, hz1, hz2⟩ := info_parts info_u64
  rcases Nat.eq_zero_or_pos l.length with h0 | h0
  · obtain rfl := List.length_eq_zero_iff.1 h0
    exact ⟨none, 0, _, fun ty => run_append_none3 w _ _ ty _ i0 Tryd.underlying33 Tryd.underlying33 hi oa c, Reads.nil _ _ _, ⟨_, _, rfl, by simp, by omega, fun _ => rfl⟩, fun G _ b o n c e h => by simp at e, On.refl hT⟩
  · obtain ⟨-, hc⟩ := reads_opt hR
    obtain ⟨b, off, rfl, _⟩ := hc 0 h0
    have hc' : ∀ j, j < l.length → w.cell? ⟨b, off + j, none⟩ = some (.int .u64 ((l.getD j 0 : Nat) : Int)) := fun j hj => by
      obtain ⟨b', off', h1, h2⟩ := hc j hj
      simp only [Option.some.injEq, Addr.mk.injEq] at h1
      obtain ⟨rfl, rfl, -⟩ := h1
      exact h2
    have hrun := fun ty => run_append_nil3 (P := Tryd.prog) w 33 33 ty 22 i0 (.int .u64 0) Tryd.underlying33 Tryd.underlying33 hi hz0 ⟨b, off, none⟩ l.length c (nums l) (by rw [nums_len, hz1, Nat.mul_one])
      (fun j v hj => by
        have hj' : j < l.length := by have := (List.getElem?_eq_some_iff.1 hj).1; rwa [nums_len] at this
        rw [nums_get _ _ hj'] at hj
        rw [← hj, add_plain]
        exact hc' j hj') h0 (by omega) (by rw [hz2]; omega)
    have hge := grownCap_ge w l.length 0 22
    have hcm := grownCap_le_maxLen w l.length 0 22 (by unfold maxLen; omega)
    unfold maxLen at hcm
    refine ⟨_, _, _, hrun, ⟨hR.1, hR.2.1, .inr ⟨_, 0, _, rfl, fun j hj => ?_⟩⟩, ⟨_, _, rfl, hge, hcm, fun h => by simp at h⟩, fun G hG b o n c e h => ?_, (On.refl hT).drew.alloc _⟩
    · rw [Nat.zero_add]
      have hs : w.drew.heap.size = w.heap.size := rfl
      rw [← hs, World.cell?_alloc_new, Array.getElem?_append_left (by simp [nums_len]; exact hj)]
      have := nums_get l j hj
      simpa using this
    · simp only [Value.slice.injEq, Option.some.injEq, Addr.mk.injEq] at e
      obtain ⟨⟨rfl, -⟩, -⟩ := e
      omega
theorem fcown3_any (l : List Nat) (n : Nat) (v : Value) (w : World) (hT : Tab w) (hR : Reads w v l) (hS : Shape v l) (hn : n ≤ 1000000) :
    Calls Tryd.prog 18 #[v, .int .i64 (n : Int)] w fun e w' => (∃ a k c, e = .returned (.slice a k c) ∧ Reads w' (.slice a k c) (l.take n) ∧ Shape (.slice a k c) (l.take n) ∧ ∀ G, G < w.heap.size → Off G (.slice a k c)) ∧ On w w' := by
  obtain ⟨a, cap, rfl, h1, h2, h3⟩ := hS
  have hlen : (l.take n).length = min l.length n := by rw [List.length_take, Nat.min_comm]
  obtain ⟨m, hm⟩ : ∃ m, m = min l.length n := ⟨_, rfl⟩
  have hRt := hR.take n m hm
  rw [← hm] at hlen
  rw [← hlen] at hRt
  obtain ⟨an, cn, w1, hrun, hR1, hS1, hF1, hO1⟩ := append_list9 w (l.take n) a cap hT hRt (by omega)
  rw [hlen] at hrun hR1 hS1 hF1
  have HRUN := Lib.hid hrun; have HR1 := Lib.hid hR1; have HO1 := Lib.hid hO1; have HS1 := Lib.hid hS1; have HF1 := Lib.hid hF1
  clear hrun hR1 hO1 hRt hlen hR hS1 hF1
  have hcs : (m = l.length ∧ ¬ n < l.length) ∨ (m = n ∧ n < l.length) := by omega
  have hmc : m ≤ cap := by omega
  clear hm
  rcases a with _ | ad
  · have hc0 := h3 rfl
    subst hc0
    obtain rfl := List.length_eq_zero_iff.1 (show l.length = 0 by omega)
    have hn0 : ¬ ((n : Int) < 0) := by omega
    clear HRUN HR1 HO1 HS1 HF1 hcs h1 h2 h3
    have HOO := Lib.hid (On.refl hT)
    go_enter Tryd.func18, Tryd.ntmps18
    go_wp2
    all_goals
      go_ret
      exact ⟨⟨_, _, _, rfl, Reads.nil _ _ _, ⟨_, _, rfl, by simp, by omega, fun _ => rfl⟩, fun G _ b o n c e h => by simp at e⟩, HOO.out⟩
  · clear h3
    rcases hcs with ⟨rfl, hcs⟩ | ⟨rfl, hcs⟩
    all_goals
      go_enter Tryd.func18, Tryd.ntmps18
      go_wp2_with (at_builtin; refine wp_append2 rfl (.tmp 6) (.tmp 12) _ _ rfl _ _ _ rfl rfl HRUN.out ?_)
      go_wp2
      go_ret
      exact ⟨⟨_, _, _, rfl, HR1.out, HS1.out, HF1.out⟩, HO1.out⟩
end Go.Proofs.YtiibcfajcndcnaaDoor

/- Plain facts of FoldLinear: the fold of a sum of multiples. -/
namespace Go.Proofs.YtiibcfajcndcnaaDoor
set_option linter.unusedVariables false

/-- A multiple of a list and another one, place by place. -/
def linL (f : Int) (A B : List Nat) (m n : Nat) : List Nat := (List.range n).map fun i => addF f (mulF f (A.getD i 0) m) (B.getD i 0)
theorem linL_len (f : Int) (A B : List Nat) (m n : Nat) : (linL f A B m n).length = n := by simp [linL]
theorem linL_getD (f : Int) (A B : List Nat) (m n i : Nat) (h : i < n) : (linL f A B m n).getD i 0 = addF f (mulF f (A.getD i 0) m) (B.getD i 0) := by unfold linL; rw [getD_range, if_pos h]
theorem linL_le (f : Int) (A B : List Nat) (m n : Nat) : ∀ x ∈ linL f A B m n, x ≤ 18446744073709551615 := fun x hx => by
  unfold linL at hx
  obtain ⟨i, _, rfl⟩ := List.mem_map.1 hx
  have := addF_le f (mulF f (A.getD i 0) m) (B.getD i 0)
  omega
theorem linL_take (f : Int) (A B : List Nat) (m n i : Nat) (hi : i < n) : (linL f A B m n).take (i + 1) = (linL f A B m n).take i ++ [addF f (mulF f (A.getD i 0) m) (B.getD i 0)] := by
  rw [take_snoc _ i (by rw [linL_len]; exact hi), linL_getD _ _ _ _ _ _ hi]
theorem pad_le9 {l : List Nat} (h : ∀ x ∈ l, x ≤ 18446744073709551615) (n : Nat) : ∀ x ∈ pad l n, x ≤ 18446744073709551615 := fun x hx => by
  unfold pad at hx
  obtain ⟨i, _, rfl⟩ := List.mem_map.1 hx
  rcases Nat.lt_or_ge i l.length with h1 | h1
  · exact h _ (getD_mem l i h1)
  · rw [getD_over h1]; omega
theorem fold_lin {f : Int} {K s : Nat} (hv : validD f K s = true) (h3 : 3 ≤ K) (A B : List Nat) (m z : Nat) : fldL f K s (linL f A B m (2 ^ K)) z = linL f (fldL f K s A z) (fldL f K s B z) m (2 ^ K / 8) := by
  obtain ⟨hvf, -, hk2, -, -, -, -⟩ := validD_nat hv
  have hp := (valid_iff f).1 hvf
  refine list_ext (by rw [fldL_len, linL_len]) fun i hi => ?_
  rw [fldL_len] at hi
  rw [fldL_getD _ _ _ _ _ _ hi, linL_getD _ _ _ _ _ _ hi, fldL_getD _ _ _ _ _ _ hi, fldL_getD _ _ _ _ _ _ hi]
  have hxn : ptF f K s i % pOf f ≠ 0 := by
    have := point_sh hv i
    unfold shB at this
    rw [hvf, Bool.true_and, decide_eq_true_eq, redF_pos _ _ hp] at this
    exact this
  unfold fldF locF
  refine at_lin hvf _ hxn _ _ m z (pickL_len _ _ _) (pickL_len _ _ _) _ (pickL_len _ _ _) fun j hj => ?_
  have h8 := eight_of h3
  have hij : i + j * (2 ^ K / 8) < 2 ^ K := by
    have : j * (2 ^ K / 8) ≤ 7 * (2 ^ K / 8) := Nat.mul_le_mul_right _ (by omega)
    omega
  unfold pickL
  simp only [getD_range, if_pos hj]
  rw [linL_getD _ _ _ _ _ _ hij, redF_pos _ _ hp, addF_pos _ _ _ hp, Nat.mod_mod]
end Go.Proofs.YtiibcfajcndcnaaDoor

/- The walk of the law FoldSteps: it returns true. -/
namespace Go.Proofs.YtiibcfajcndcnaaDoor
open Go.RowKit
set_option linter.unusedVariables false

theorem at_leaf {f : Int} {K s : Nat} (hv : validD f K s = true) (h3 : 3 ≤ K) (v : List Nat) (z i : Nat) : atF f (ptF f K s i) (leafL f v i (2 ^ K / 8)) z = fldF f K s v z i := by
  obtain ⟨hvf, -, hk2, -, -, -, -⟩ := validD_nat hv
  have hp := (valid_iff f).1 hvf
  have hsh := point_sh hv i
  have hxn : ptF f K s i % pOf f ≠ 0 := by
    have := hsh
    unfold shB at this
    rw [hvf, Bool.true_and, decide_eq_true_eq, redF_pos _ _ hp] at this
    exact this
  have hr : redF f (ptF f K s i) = ptF f K s i := by rw [redF_pos _ _ hp, Nat.mod_eq_of_lt]; unfold ptF; rw [mulF_pos _ _ _ hp]; exact Nat.mod_lt _ hp
  unfold atF fldF locF
  rw [if_pos hsh, hr]
  refine coef_red hvf (three_two f hvf) _ hxn _ _ (by rw [leafL_len]; decide) (by rw [pickL_len]; decide) (fun j hj => ?_) z
  have hj : j < 8 := hj
  unfold leafL pickL
  rw [getD_range, getD_range, if_pos hj, if_pos hj, redF_redF]
set_option maxRecDepth 100000 in
set_option maxHeartbeats 4000000 in
theorem steps_core (X : Int) (A0 K0 K s0 s : Nat) (lv lz : List Nat) (vv vz : Value) (w : World) (hT : Tab w) (hD : TabD w) (hA1 : A0 ≤ 255) (hK1 : K0 ≤ 255) (hs0 : s0 ≤ 18446744073709551615) (hv : validB X = true) (hA : (A0 : Int) % 4 = X) (hK : K = kD X K0) (hs : s = shD X s0) (hRv : Reads w vv lv) (hRz : Reads w vz lz) (hSz : Shape vz lz) :
    Calls Tryd.prog 8 #[.int .u8 (A0 : Int), .int .u8 (K0 : Int), .int .u64 (s0 : Int), vv, vz] w fun e w' => e = .returned (.bool true) ∧ On w w' := by
  have hvD : validD X K s = true := by rw [hK, hs]; exact fshD_valid X K0 s0 hv
  have hDM := fdomain_any X A0 K0 s0 w hT hv hA hA1 hK1 hs0
  rw [← hK, ← hs] at hDM
  have HDM := Lib.hid hDM
  have hk3 : 3 ≤ K := by rw [hK]; exact kD_three X K0
  have hk7 : K ≤ 7 := by rw [hK]; exact kD_le X K0
  have hpX := (valid_iff X).1 hv
  have hM128 : 2 ^ K ≤ 2 ^ 7 := Nat.pow_le_pow_right (by omega) hk7
  obtain ⟨M, hM⟩ : ∃ M, M = 2 ^ K := ⟨_, rfl⟩
  have hpw : (2 : Int) ^ K = (M : Int) := by rw [hM, Int.natCast_pow]; rfl
  have hAl : (pad lv M).length = M := pad_len lv M
  have hAb : ∀ x ∈ pad lv M, x ≤ 18446744073709551615 := pad_le9 hRv.1 M
  have HCA := Lib.hid (fun g w' (h : Blk g w' (List.replicate M 0)) (hR : Reads w' vv lv) => copy_run w' g M M vv lv h hR)
  obtain ⟨A, hAe⟩ : ∃ A, A = pad lv M := ⟨_, rfl⟩
  rw [← hAe] at hAl hAb
  have HAE := Lib.hid hAe
  have hAlK : A.length = 2 ^ K := by rw [hAl, hM]
  -- the challenges
  obtain ⟨r3, hr3⟩ : ∃ r3, r3 = K / 3 := ⟨_, rfl⟩
  have HOWN := Lib.hid (fun w' (h : On w w') => fcown3_any lz r3 vz w' h.tab (hRz.on h) hSz (by omega))
  have hzb : ∀ x ∈ lz.take r3, x ≤ 18446744073709551615 := fun x hx => hRz.1 x (List.mem_of_mem_take hx)
  have hzl : (lz.take r3).length ≤ r3 := by rw [List.length_take]; omega
  generalize lz.take r3 = zs at *
  obtain ⟨m, hm⟩ : ∃ m, m = zs.length := ⟨_, rfl⟩
  have hmK : 3 * m ≤ K := by omega
  have hm2 : m ≤ 2 := by omega
  have HWDS : Hid (∀ (ga : Nat) (zv : Value) w', On w w' → Blk ga w' A → Reads w' zv zs → Calls Tryd.prog 21 #[.agg #[.int .i64 X, .int .i64 (K : Int), .int .u64 (s : Int)], .slice (some ⟨ga, 0, none⟩) M M, zv] w' fun e w'' => ∃ b c, e = .returned (.tuple #[.slice b (m + 1) c, .int .i64 0]) ∧ Hid (WB (w'.heap.size + 1) w'' (.slice b (m + 1) c) (m + 1) (wV X K s A zs)) ∧ On w' w'') := fun ga zv w' h hb hR => by
    have hra := hb.reads hAb (by omega) M
    rw [hAl] at hra
    rw [hm]
    exact words_yes X K s A zs _ zv w' h.tab (hD.on h) hvD hAlK (by omega) hra hR
  have HZE : Hid (∀ j, zs.getD j 0 ≤ 18446744073709551615) := fun j => by
    rcases Nat.lt_or_ge j zs.length with h | h
    · exact hzb _ (getD_mem zs j h)
    · rw [getD_over h]; omega
  have hK18 : 2 ^ K ≤ 262144 := by omega
  have HLN : Hid (∀ t, 3 * t ≤ K → (wV X K s A zs t).length = 2 ^ (K - 3 * t)) := fun t h => wV_len zs hAlK t h
  have HLB : Hid (∀ t, t ≤ m → (wV X K s A zs t).length ≤ 128) := fun t h => by
    rw [HLN.out t (by omega)]
    exact Nat.le_trans (Nat.pow_le_pow_right (by omega) (by omega)) hM128
  have HRW : Hid (∀ (t R : Nat) w', t ≤ m → Blk R w' (wV X K s A zs t) → Reads w' (.slice (some ⟨R, 0, none⟩) (wV X K s A zs t).length (wV X K s A zs t).length) (wV X K s A zs t)) := fun t R w' ht hb => hb.reads (wV_le _ _ _ _ _ _) (by have := HLB.out t ht; omega) _
  have HWD : Hid (∀ (t R : Nat) w', t < m → On w w' → Blk R w' (wV X K s A zs t) → Calls Tryd.prog 19 #[.agg #[.int .i64 X, .int .i64 ((K - 3 * t : Nat) : Int), .int .u64 ((wS X s t : Nat) : Int)], .slice (some ⟨R, 0, none⟩) (wV X K s A zs t).length (wV X K s A zs t).length, .int .u64 ((zs.getD t 0 : Nat) : Int)] w' fun e w'' => ∃ R2, e = .returned (.tuple #[.slice (some ⟨R2, 0, none⟩) (wV X K s A zs (t + 1)).length (wV X K s A zs (t + 1)).length, .int .i64 0]) ∧ Hid (Blk R2 w'' (wV X K s A zs (t + 1)) ∧ w'.heap.size ≤ R2) ∧ On w' w'') := fun t R w' ht h hb => by
    have hl1 : (wV X K s A zs (t + 1)).length = 2 ^ (K - 3 * t) / 8 := by
      show (fldL X (K - 3 * t) (wS X s t) (wV X K s A zs t) (zs.getD t 0)).length = _
      rw [fldL_len]
    rw [hl1]
    exact (fword_yes X (K - 3 * t) (wS X s t) (zs.getD t 0) (wV X K s A zs t) _ w' h.tab (hD.on h) (wS_valid hvD t (by omega)) (by omega) (HLN.out t (by omega)) (HZE.out t) (HRW.out t R w' (by omega) hb)).mono fun e w'' ⟨R2, h1, h2, h3, h4⟩ => ⟨R2, h2, ⟨h3, h1⟩, h4⟩
  have HNX : Hid (∀ t w', t < m → Tab w' → Calls Tryd.prog 10 #[.agg #[.int .i64 X, .int .i64 ((K - 3 * t : Nat) : Int), .int .u64 ((wS X s t : Nat) : Int)]] w' fun e w'' => e = .returned (.tuple #[.agg #[.int .i64 X, .int .i64 ((K - 3 * (t + 1) : Nat) : Int), .int .u64 ((wS X s (t + 1) : Nat) : Int)], .int .i64 0]) ∧ On w' w'') := fun t w' ht h => by
    have h1 := next_yes X (K - 3 * t) (wS X s t) w' h (wS_valid hvD t (by omega)) (by omega)
    rw [show K - 3 * t - 3 = K - 3 * (t + 1) by omega] at h1
    exact h1
  have HSZ : Hid (∀ t w', t < m → Tab w' → Calls Tryd.prog 31 #[.agg #[.int .i64 X, .int .i64 ((K - 3 * (t + 1) : Nat) : Int), .int .u64 ((wS X s (t + 1) : Nat) : Int)]] w' fun e w'' => e = .returned (.int .i64 (((wV X K s A zs (t + 1)).length : Nat) : Int)) ∧ On w' w'') := fun t w' ht h => by
    have hvt := wS_valid hvD (t + 1) (by omega)
    have hple := pOf_le X
    obtain ⟨-, -, -, -, hlt, -, -⟩ := validD_nat hvt
    have h1 := csize_any X (K - 3 * (t + 1) : Nat) (wS X s (t + 1)) w' w' (On.refl h) (by omega) (by omega)
    rw [sizeD_nat hvt, ← HLN.out (t + 1) (by omega)] at h1
    exact h1
  have HSM : Hid (∀ (t : Nat) (v v' : Value) w', On w w' → Reads w' v (wV X K s A zs t) → Reads w' v' (wV X K s A zs t) → Calls Tryd.prog 36 #[v, v'] w' fun e w'' => e = .returned (.bool true) ∧ On w' w'') := fun t v v' w' h h1 h2 => fw_csame _ _ v v' w' true (decide_eq_true rfl) h.tab h1 h2
  have HPT : Hid (∀ (t i : Nat) w', t < m → i < (wV X K s A zs (t + 1)).length → Tab w' → Calls Tryd.prog 42 #[.agg #[.int .i64 X, .int .i64 ((K - 3 * t : Nat) : Int), .int .u64 ((wS X s t : Nat) : Int)], .int .i64 (i : Int)] w' fun e w'' => e = .returned (.int .u64 ((ptF X (K - 3 * t : Nat) (wS X s t) i : Nat) : Int)) ∧ On w' w'') := fun t i w' ht hi h => by
    have hvt := wS_valid hvD t (by omega)
    have hple := pOf_le X
    obtain ⟨-, -, -, -, hlt, -, -⟩ := validD_nat hvt
    have hl1 := HLN.out (t + 1) (by omega)
    have hl0 := HLB.out (t + 1) (by omega)
    have h1 := cpoint_any X (K - 3 * t : Nat) (wS X s t) (i : Int) w' w' (On.refl h) (by omega) (by omega) (by omega)
    have hle : 2 ^ (K - 3 * (t + 1)) ≤ 2 ^ (K - 3 * t) := Nat.pow_le_pow_right (by omega) (by omega)
    rw [if_pos ⟨by omega, by rw [sizeD_nat hvt]; omega⟩, Int.toNat_natCast, Int.toNat_natCast] at h1
    exact h1
  have HLF : Hid (∀ (t i R : Nat) w', t < m → i < (wV X K s A zs (t + 1)).length → Tab w' → Blk R w' (wV X K s A zs t) → Calls Tryd.prog 23 #[.agg #[.int .i64 X, .int .i64 ((K - 3 * t : Nat) : Int), .int .u64 ((wS X s t : Nat) : Int)], .slice (some ⟨R, 0, none⟩) (wV X K s A zs t).length (wV X K s A zs t).length, .int .i64 (i : Int)] w' fun e w'' => e = .returned (arrV (leafL X (wV X K s A zs t) i (2 ^ (K - 3 * t) / 8))) ∧ On w' w'') := fun t i R w' ht hi h hb => by
    have hl1 := HLN.out (t + 1) (by omega)
    have hpe := pow_eighth (K := K - 3 * t) (by omega)
    rw [show K - 3 * t - 3 = K - 3 * (t + 1) by omega] at hpe
    exact leaf_yes X (K - 3 * t) (wS X s t) i (2 ^ (K - 3 * t) / 8) _ _ w' h (wS_valid hvD t (by omega)) (HLN.out t (by omega)) (by rw [HLN.out t (by omega)]) (by rw [hpe, ← hl1]; exact hi) (HRW.out t R w' (by omega) hb)
  have HATT : Hid (∀ (t i : Nat) w', t < m → i < (wV X K s A zs (t + 1)).length → On w w' → Calls Tryd.prog 14 #[.int .i64 X, .int .u64 ((ptF X (K - 3 * t : Nat) (wS X s t) i : Nat) : Int), arrV (leafL X (wV X K s A zs t) i (2 ^ (K - 3 * t) / 8)), .int .u64 ((zs.getD t 0 : Nat) : Int)] w' fun e w'' => e = .returned (.int .u64 (((wV X K s A zs (t + 1)).getD i 0 : Nat) : Int)) ∧ On w' w'') := fun t i w' ht hi h => by
    have hl1 := HLN.out (t + 1) (by omega)
    have hpe := pow_eighth (K := K - 3 * t) (by omega)
    rw [show K - 3 * t - 3 = K - 3 * (t + 1) by omega] at hpe
    have hx := ptF_le X (K - 3 * t : Nat) (wS X s t) i
    have h1 := at_any X (ptF X (K - 3 * t : Nat) (wS X s t) i) (zs.getD t 0) (leafL X (wV X K s A zs t) i (2 ^ (K - 3 * t) / 8)) w' h.tab (hD.on h) (leafL_len _ _ _ _) (leafL_le _ _ _ _) (by omega) (HZE.out t)
    rw [at_leaf (wS_valid hvD t (by omega)) (by omega), ← fldL_getD _ _ _ _ _ _ (show i < 2 ^ (K - 3 * t) / 8 by rw [hpe, ← hl1]; exact hi)] at h1
    exact h1
  have HWK : Hid (∀ w', On w w' → Calls Tryd.prog 16 #[] w' fun e w'' => e = .returned (.bool true) ∧ On w' w'') := fun w' h => fworks_any w' h.tab (hD.on h)
  have HRD : Hid (∀ i w', Tab w' → Calls Tryd.prog 40 #[.int .i64 X, .int .u64 ((A.getD i 0 : Nat) : Int)] w' fun e w'' => e = .returned (.int .u64 (((wV X K s A zs 0).getD i 0 : Nat) : Int)) ∧ w' = w'') := fun i w' h => by
    have hab : A.getD i 0 ≤ 18446744073709551615 := by
      rcases Nat.lt_or_ge i A.length with h | h
      · exact hAb _ (getD_mem A i h)
      · rw [getD_over h]; omega
    have e : (wV X K s A zs 0).getD i 0 = redF X (A.getD i 0) := by
      show (A.map (redF X)).getD i 0 = _
      rw [List.getD_eq_getElem?_getD, List.getElem?_map, List.getD_eq_getElem?_getD]
      cases A[i]? with
      | none => simp [redF_pos _ _ hpX]
      | some y => rfl
    rw [e]
    exact reduce_any X _ w' h hab
  have HW0 : Hid ((wV X K s A zs 0).length = M) := by show (A.map (redF X)).length = M; simp [hAl]
  have HS0 : Hid (wS X s 0 = s) := rfl
  have HRV := Lib.hid hRv; have HOw := Lib.hid (On.refl hT); have HAL := Lib.hid hAl; have HML := Lib.hid hm
  have hwK : IntKind.u64.wrap (K : Int) = (K : Int) := IntWalk.u64_in _ (by omega)
  have hwM : IntKind.i64.wrap (M : Int) = (M : Int) := IntWalk.i64_in _ (by omega)
  have hq3 : Int.tdiv (K : Int) 3 = (r3 : Int) := by rw [hr3]; exact Int.ofNat_tdiv K 3
  have hq3' : (K : Int) / 3 = (r3 : Int) := by omega
  have hwr : IntKind.i64.wrap (r3 : Int) = (r3 : Int) := IntWalk.i64_in _ (by omega)
  have hM1 : M ≤ 128 := by omega
  have hr32 : r3 ≤ 2 := by omega
  generalize wV X K s A zs = WV at *
  generalize wS X s = WS at *
  clear hDM hM128 hvD hRv hRz hSz hv hA hK hs hM hAl hAb hAlK hAe hT hD hA1 hK1 hs0 hpX hzb hzl hm hK18 hr3
  go_enter Tryd.func8, Tryd.ntmps8
  go_wp2_with fail
  go_at_call 27
  with_reducible refine HDM.out.mono ?_
  rintro e w1 ⟨rfl, hO1⟩
  have hOa := (On.refl hO1.tab).alloc (.cells #[.int .i64 X, .int .i64 (K : Int), .int .u64 (s : Int)] 24)
  have hV0 := vb_new w1 #[.int .i64 X, .int .i64 (K : Int), .int .u64 (s : Int)] 24
  obtain ⟨u, hu⟩ : ∃ u, u = w1.alloc (.cells #[.int .i64 X, .int .i64 (K : Int), .int .u64 (s : Int)] 24) := ⟨_, rfl⟩
  rw [← hu] at hOa hV0
  have HOU : Hid (On w u) := hO1.trans hOa
  have HVB : Hid (VB w1.heap.size u (dmL X K s)) := hV0
  have HGE : Hid (w.heap.size ≤ w1.heap.size) := hO1.size
  have HU := Lib.hid hu
  clear hu hO1 hOa hV0 HDM
  obtain ⟨d1, d2, d3⟩ := HVB.out.cells3
  have hmk := make_run M (by omega) u
  go_upto_region 2 with fail
  rw [← HU.out]
  go_upto_region 4 with fail
  clear hmk hpw hwK hwM
  generalize w1.heap.size = B0 at *
  have hbm := blk_made u M
  have hOm := (On.refl HOU.out.tab).alloc (.cells (madeCells #[.int .u64 0] M) 22)
  obtain ⟨w2, hcA, hbA, hapA⟩ := HCA.out u.heap.size _ hbm (HRV.out.on (HOU.out.trans hOm))
  have hO2 : On u w2 := hOm.ap (Nat.le_refl _) hapA
  have HGA : Hid (Blk u.heap.size w2 A) := by rw [HAE.out]; exact hbA
  have HC : Hid (On u w2) := hO2
  clear hbm hOm hbA hapA hO2 HCA HAE d1 d2 d3
  generalize u.heap.size = ga at *
  obtain ⟨d1, d2, d3⟩ := (HVB.out.on HC.out).cells3
  go_upto_region 5 with fail
  clear hcA
  go_wp2_with fail
  with_reducible refine (HOWN.out _ (HOU.out.trans HC.out)).mono ?_
  rintro e w3 ⟨⟨az, kz, cz, rfl, hRz3, hSz3, hoff⟩, hO3⟩
  have hkz : kz = m := by
    obtain ⟨a', c', e1, -⟩ := hSz3
    simp only [Value.slice.injEq] at e1
    rw [HML.out]; exact e1.2.1
  subst hkz
  have HRZ := Lib.hid hRz3
  have HOFF : Hid (Off B0 (.slice az kz cz)) := hoff B0 (by have h1 := HVB.out.1; have h2 := HC.out.size; omega)
  have HGA := Lib.hid (HGA.out.on hO3)
  have HC : Hid (On u w3) := HC.out.trans hO3
  clear hRz3 hSz3 hoff hO3 d1 d2 d3 HOWN hq3 hq3' hwr
  obtain ⟨d1, d2, d3⟩ := (HVB.out.on HC.out).cells3
  go_wp2_with fail
  with_reducible refine (HWDS.out _ _ _ (HOU.out.trans HC.out) HGA.out HRZ.out).mono ?_
  rintro e w4 ⟨lb, lc, rfl, HWB, hO4⟩
  have HBL : Hid (B0 < w3.heap.size + 1) := by have h1 := HVB.out.1; have h2 := HC.out.size; unfold Hid; omega
  have HGA := Lib.hid (HGA.out.on hO4); have HRZ := Lib.hid (HRZ.out.on hO4)
  have HC : Hid (On u w4) := HC.out.trans hO4
  clear hO4 d1 d2 d3 HWDS
  generalize w3.heap.size + 1 = BL at *
  obtain ⟨bl, g0, rfl, -, -, -, hc0, hb0⟩ := WB.at HWB.out 0 (by omega)
  rw [HW0.out] at hc0
  have HG0 : Hid (w4.cell? ⟨bl, 0, none⟩ = some (.slice (some ⟨g0, 0, none⟩) M M) ∧ Blk g0 w4 (WV 0)) := ⟨hc0, hb0⟩
  have hwm1 : IntKind.i64.wrap ((kz : Int) + 1) = (kz : Int) + 1 := IntWalk.i64_in _ (by omega)
  clear hb0
  go_upto_region 10 with fail
  clear hc0 hwm1
  have HK1 : Hid (∀ i wq, i < M → On w4 wq → (wq.cell? ⟨B0, 0, none⟩ = some (.int .i64 X)) ∧ wq.cell? ⟨bl, 0, none⟩ = some (.slice (some ⟨g0, 0, none⟩) M M) ∧ wq.cell? ⟨g0, i, none⟩ = some (.int .u64 (((WV 0).getD i 0 : Nat) : Int)) ∧ wq.cell? ⟨ga, i, none⟩ = some (.int .u64 ((A.getD i 0 : Nat) : Int))) := fun i wq hi hq => ⟨((HVB.out.on HC.out).on hq).cells3.1, by rw [hq.cell (cell_size HG0.out.1)]; exact HG0.out.1, (HG0.out.2.on hq).cell i (by rw [HW0.out]; exact hi), (HGA.out.on hq).cell i (by rw [HAL.out]; exact hi)⟩
  go_loopw [16] (fun vi wr => ∃ i : Nat, i ≤ M ∧ vi = .int .i64 (i : Int) ∧ Hid (On w4 wr)) (fun vi _ => M - (intOf vi).toNat)
  case atStart => exact ⟨0, Nat.zero_le _, rfl, On.refl HC.out.tab⟩
  case round =>
    rename World => wr
    obtain ⟨i, hi, rfl, HO⟩ := hrel
    by_cases hlt : i < M
    · have HKI : Hid (∀ wq, On w4 wq → _) := fun wq h => HK1.out i wq hlt h
      have HRI : Hid (∀ wq, On w4 wq → Calls Tryd.prog 40 #[.int .i64 X, .int .u64 ((A.getD i 0 : Nat) : Int)] wq fun e w'' => e = .returned (.int .u64 (((WV 0).getD i 0 : Nat) : Int)) ∧ On w4 w'') := fun wq h => (HRD.out i wq h.tab).mono fun e w'' ⟨h1, h2⟩ => ⟨h1, h2 ▸ h⟩
      generalize (WV 0).getD i 0 = y at *
      generalize A.getD i 0 = ai at *
      go_upto_region 12 with fail
      refine region_keep_tail (fun wq => On w4 wq) 13 (by kernel_rfl) (by kernel_rfl) HO.out.drew ?_
      simp only [List.take_succ_cons, List.take_zero, List.drop_succ_cons, List.drop_zero]
      refine quiet_start fun L9 hL9 => ?_
      refine quiet_take (v := ?kv0) hL9 (by kernel_rfl) (fun wq hwq => ?ky0) (fun L9 hL9 => ?kr0)
      case ky0 => (go_simp; try with_reducible rfl)
      try simp only [Act.put, List.setIfInBounds_toArray, List.set_cons_zero, List.set_cons_succ, List.getElem_toArray, List.getElem_cons_zero, List.getElem_cons_succ]
      refine quiet_take (v := ?kv1) hL9 (by kernel_rfl) (fun wq hwq => ?ky1) (fun L9 hL9 => ?kr1)
      case ky1 => (go_simp; try with_reducible rfl)
      try simp only [Act.put, List.setIfInBounds_toArray, List.set_cons_zero, List.set_cons_succ, List.getElem_toArray, List.getElem_cons_zero, List.getElem_cons_succ]
      refine quiet_take (v := ?kv2) hL9 (by kernel_rfl) (fun wq hwq => ?ky2) (fun L9 hL9 => ?kr2)
      case ky2 => (obtain ⟨q1, q2, q3, q4⟩ := HKI.out wq hwq; go_simp; try with_reducible rfl)
      try simp only [Act.put, List.setIfInBounds_toArray, List.set_cons_zero, List.set_cons_succ, List.getElem_toArray, List.getElem_cons_zero, List.getElem_cons_succ]
      refine quiet_take (v := ?kv3) hL9 (by kernel_rfl) (fun wq hwq => ?ky3) (fun L9 hL9 => ?kr3)
      case ky3 => (go_simp; try with_reducible rfl)
      try simp only [Act.put, List.setIfInBounds_toArray, List.set_cons_zero, List.set_cons_succ, List.getElem_toArray, List.getElem_cons_zero, List.getElem_cons_succ]
      refine quiet_take (v := ?kv4) hL9 (by kernel_rfl) (fun wq hwq => ?ky4) (fun L9 hL9 => ?kr4)
      case ky4 => (go_simp; try with_reducible rfl)
      try simp only [Act.put, List.setIfInBounds_toArray, List.set_cons_zero, List.set_cons_succ, List.getElem_toArray, List.getElem_cons_zero, List.getElem_cons_succ]
      refine quiet_take (v := ?kv5) hL9 (by kernel_rfl) (fun wq hwq => ?ky5) (fun L9 hL9 => ?kr5)
      case ky5 => (obtain ⟨q1, q2, q3, q4⟩ := HKI.out wq hwq; go_simp; try with_reducible rfl)
      try simp only [Act.put, List.setIfInBounds_toArray, List.set_cons_zero, List.set_cons_succ, List.getElem_toArray, List.getElem_cons_zero, List.getElem_cons_succ]
      refine quiet_take (v := ?kv6) hL9 (by kernel_rfl) (fun wq hwq => ?ky6) (fun L9 hL9 => ?kr6)
      case ky6 => (go_simp; try with_reducible rfl)
      try simp only [Act.put, List.setIfInBounds_toArray, List.set_cons_zero, List.set_cons_succ, List.getElem_toArray, List.getElem_cons_zero, List.getElem_cons_succ]
      refine quiet_take (v := ?kv7) hL9 (by kernel_rfl) (fun wq hwq => ?ky7) (fun L9 hL9 => ?kr7)
      case ky7 => (obtain ⟨q1, q2, q3, q4⟩ := HKI.out wq hwq; go_simp; try with_reducible rfl)
      try simp only [Act.put, List.setIfInBounds_toArray, List.set_cons_zero, List.set_cons_succ, List.getElem_toArray, List.getElem_cons_zero, List.getElem_cons_succ]
      refine quiet_take (v := ?kv8) hL9 (by kernel_rfl) (fun wq hwq => ?ky8) (fun L9 hL9 => ?kr8)
      case ky8 => (go_simp; try with_reducible rfl)
      try simp only [Act.put, List.setIfInBounds_toArray, List.set_cons_zero, List.set_cons_succ, List.getElem_toArray, List.getElem_cons_zero, List.getElem_cons_succ]
      refine quiet_take (v := ?kv9) hL9 (by kernel_rfl) (fun wq hwq => ?ky9) (fun L9 hL9 => ?kr9)
      case ky9 => (go_simp; try with_reducible rfl)
      try simp only [Act.put, List.setIfInBounds_toArray, List.set_cons_zero, List.set_cons_succ, List.getElem_toArray, List.getElem_cons_zero, List.getElem_cons_succ]
      refine quiet_take (v := ?kv10) hL9 (by kernel_rfl) (fun wq hwq => ?ky10) (fun L9 hL9 => ?kr10)
      case ky10 => (go_simp; try with_reducible rfl)
      try simp only [Act.put, List.setIfInBounds_toArray, List.set_cons_zero, List.set_cons_succ, List.getElem_toArray, List.getElem_cons_zero, List.getElem_cons_succ]
      refine quiet_take (v := ?kv11) hL9 (by kernel_rfl) (fun wq hwq => ?ky11) (fun L9 hL9 => ?kr11)
      case ky11 => (obtain ⟨q1, q2, q3, q4⟩ := HKI.out wq hwq; go_simp; try with_reducible rfl)
      try simp only [Act.put, List.setIfInBounds_toArray, List.set_cons_zero, List.set_cons_succ, List.getElem_toArray, List.getElem_cons_zero, List.getElem_cons_succ]
      refine quiet_take (v := .int .u64 (y : Int)) hL9 (by kernel_rfl) (fun wq hwq => ?ky12) (fun L9 hL9 => ?kr12)
      case ky12 => (go_simp; go_at_call 40; exact HRI.out wq hwq)
      try simp only [Act.put, List.setIfInBounds_toArray, List.set_cons_zero, List.set_cons_succ, List.getElem_toArray, List.getElem_cons_zero, List.getElem_cons_succ]
      refine quiet_nil hL9 ?_
      clear hL9
      intro w5 hO5
      have HO5 := Lib.hid hO5
      clear hO5 HKI HRI
      go_wp2
      go_roundw
      case rel => exact ⟨i + 1, by omega, by go_num, HO5⟩
      case measure => simp [intOf]; omega
    · obtain rfl : i = M := by omega
      have HST : Hid (VB B0 wr (dmL X ((K - 3 * 0 : Nat) : Int) (WS 0)) ∧ WB BL wr (.slice (some ⟨bl, 0, none⟩) (kz + 1) lc) (kz + 1) WV ∧ Reads wr (.slice az kz cz) zs ∧ On w wr) := ⟨by rw [HS0.out]; exact (HVB.out.on HC.out).on HO.out, HWB.out.on HO.out, HRZ.out.on HO.out, (HOU.out.trans HC.out).trans HO.out⟩
      clear HK1 HG0 HRD HWB HGA HRZ hi hlt HC HO
      go_upto_region 15 with fail
      go_loopw [17] (fun vi wp => ∃ t : Nat, t ≤ kz ∧ vi = .int .i64 (t : Int) ∧ Hid (VB B0 wp (dmL X ((K - 3 * t : Nat) : Int) (WS t)) ∧ WB BL wp (.slice (some ⟨bl, 0, none⟩) (kz + 1) lc) (kz + 1) WV ∧ Reads wp (.slice az kz cz) zs ∧ On w wp)) (fun vi _ => kz - (intOf vi).toNat)
      case atStart => exact ⟨0, Nat.zero_le _, rfl, HST⟩
      case round =>
        rename World => wp
        clear HST
        obtain ⟨t, ht, rfl, HS⟩ := hrel
        by_cases hlt : t < kz
        · obtain ⟨bq, gt, e1, -, hgtB, -, hct, hbt⟩ := WB.at HS.out.2.1 t (by omega)
          simp only [Option.some.injEq, Addr.mk.injEq, and_true, true_and] at e1
          subst e1
          obtain ⟨bq, gn, e1, -, hgnB, -, hcn, hbn⟩ := WB.at HS.out.2.1 (t + 1) (by omega)
          simp only [Option.some.injEq, Addr.mk.injEq, and_true, true_and] at e1
          subst e1
          obtain ⟨-, hcZ⟩ := reads_opt (HML.out ▸ HS.out.2.2.1)
          obtain ⟨bz, oz, rfl, hcz⟩ := hcZ t (by rw [← HML.out]; exact hlt)
          have HK2 : Hid (∀ wq, On wp wq → (wq.cell? ⟨B0, 0, none⟩ = some (.int .i64 X) ∧ wq.cell? ⟨B0, 1, none⟩ = some (.int .i64 ((K - 3 * t : Nat) : Int)) ∧ wq.cell? ⟨B0, 2, none⟩ = some (.int .u64 ((WS t : Nat) : Int))) ∧ wq.cell? ⟨bl, t, none⟩ = some (.slice (some ⟨gt, 0, none⟩) (WV t).length (WV t).length) ∧ wq.cell? ⟨bl, t + 1, none⟩ = some (.slice (some ⟨gn, 0, none⟩) (WV (t + 1)).length (WV (t + 1)).length) ∧ wq.cell? ⟨bz, oz + t, none⟩ = some (.int .u64 ((zs.getD t 0 : Nat) : Int))) := fun wq hq => ⟨(HS.out.1.on hq).cells3, by rw [hq.cell (cell_size hct)]; exact hct, by rw [hq.cell (cell_size hcn)]; exact hcn, by rw [hq.cell (cell_size hcz)]; exact hcz⟩
          have HBT := Lib.hid hbt; have HBN := Lib.hid hbn
          have HWDt : Hid (∀ wq, On wp wq → _) := fun wq h => HWD.out t gt wq hlt (HS.out.2.2.2.trans h) (hbt.on h)
          have HNXt : Hid (∀ wq, On wp wq → _) := fun wq h => HNX.out t wq hlt h.tab
          have HSZt : Hid (∀ wq, On wp wq → _) := fun wq h => HSZ.out t wq hlt h.tab
          have HSMt : Hid (∀ (a b : Value) wq, On wp wq → _ → _ → _) := fun a b wq h h1 h2 => HSM.out (t + 1) a b wq (HS.out.2.2.2.trans h) h1 h2
          have HPTt : Hid (∀ (i : Nat) wq, i < (WV (t + 1)).length → On wp wq → _) := fun i wq hi h => HPT.out t i wq hlt hi h.tab
          have HLFt : Hid (∀ (i : Nat) wq, i < (WV (t + 1)).length → On wp wq → _) := fun i wq hi h => HLF.out t i gt wq hlt hi h.tab (hbt.on h)
          have HATt : Hid (∀ (i : Nat) wq, i < (WV (t + 1)).length → On wp wq → _) := fun i wq hi h => HATT.out t i wq hlt hi (HS.out.2.2.2.trans h)
          have hln := HLB.out (t + 1) (by omega)
          have hln0 := HLB.out t (by omega)
          have HRWn : Hid (∀ (R : Nat) wq, Blk R wq (WV (t + 1)) → _) := fun R wq hb => HRW.out (t + 1) R wq (by omega) hb
          clear hct hcn hcz hcZ hbt hbn hgtB hgnB
          generalize zs.getD t 0 = z at *
          have hb1 : (t : Int) < (kz : Int) + 1 := by omega
          have hb2 : ((t + 1 : Nat) : Int) < (kz : Int) + 1 := by omega
          have hSd : On wp wp.drew := (On.refl HS.out.2.2.2.tab).drew
          go_upto_region 17 with fail
          refine region_head_tail (S := fun wq => On wp wq) 14 (by kernel_rfl) (by kernel_rfl) ?_
          refine HeadG.take (i := 0) (v := ?hdv1x0) rfl (by kernel_rfl) (by kernel_rfl) (by kernel_rfl) (by kernel_rfl) (by kernel_rfl) (by kernel_rfl) (by kernel_rfl) (fun _ _ _ h => h) (Or.inl ⟨by rfl, ?hdy1x0⟩) hSd ?hdr1x0
          case hdy1x0 => (intro w' hSw; obtain ⟨⟨e1, e2, e3⟩, e4, e5, e6⟩ := HK2.out w' hSw; go_simp; try with_reducible rfl)
          try simp only [Act.put, List.setIfInBounds_toArray, List.set_cons_zero, List.set_cons_succ, List.getElem_toArray, List.getElem_cons_zero, List.getElem_cons_succ]
          refine HeadG.take (i := 1) (v := ?hdv2x1) rfl (by kernel_rfl) (by kernel_rfl) (by kernel_rfl) (by kernel_rfl) (by kernel_rfl) (by kernel_rfl) (by kernel_rfl) (fun _ _ _ h => h) (Or.inl ⟨by rfl, ?hdy2x1⟩) hSd ?hdr2x1
          case hdy2x1 => (intro w' hSw; obtain ⟨⟨e1, e2, e3⟩, e4, e5, e6⟩ := HK2.out w' hSw; go_simp; try with_reducible rfl)
          try simp only [Act.put, List.setIfInBounds_toArray, List.set_cons_zero, List.set_cons_succ, List.getElem_toArray, List.getElem_cons_zero, List.getElem_cons_succ]
          refine HeadG.take (i := 2) (v := ?hdv3x2) rfl (by kernel_rfl) (by kernel_rfl) (by kernel_rfl) (by kernel_rfl) (by kernel_rfl) (by kernel_rfl) (by kernel_rfl) (fun _ _ _ h => h) (Or.inl ⟨by rfl, ?hdy3x2⟩) hSd ?hdr3x2
          case hdy3x2 => (intro w' hSw; obtain ⟨⟨e1, e2, e3⟩, e4, e5, e6⟩ := HK2.out w' hSw; go_simp; try with_reducible rfl)
          try simp only [Act.put, List.setIfInBounds_toArray, List.set_cons_zero, List.set_cons_succ, List.getElem_toArray, List.getElem_cons_zero, List.getElem_cons_succ]
          refine HeadG.take (i := 3) (v := ?hdv4x3) rfl (by kernel_rfl) (by kernel_rfl) (by kernel_rfl) (by kernel_rfl) (by kernel_rfl) (by kernel_rfl) (by kernel_rfl) (fun _ _ _ h => h) (Or.inl ⟨by rfl, ?hdy4x3⟩) hSd ?hdr4x3
          case hdy4x3 => (intro w' hSw; obtain ⟨⟨e1, e2, e3⟩, e4, e5, e6⟩ := HK2.out w' hSw; go_simp; try with_reducible rfl)
          try simp only [Act.put, List.setIfInBounds_toArray, List.set_cons_zero, List.set_cons_succ, List.getElem_toArray, List.getElem_cons_zero, List.getElem_cons_succ]
          refine HeadG.take (i := 4) (v := ?hdv5x4) rfl (by kernel_rfl) (by kernel_rfl) (by kernel_rfl) (by kernel_rfl) (by kernel_rfl) (by kernel_rfl) (by kernel_rfl) (fun _ _ _ h => h) (Or.inl ⟨by rfl, ?hdy5x4⟩) hSd ?hdr5x4
          case hdy5x4 => (intro w' hSw; obtain ⟨⟨e1, e2, e3⟩, e4, e5, e6⟩ := HK2.out w' hSw; go_simp; try with_reducible rfl)
          try simp only [Act.put, List.setIfInBounds_toArray, List.set_cons_zero, List.set_cons_succ, List.getElem_toArray, List.getElem_cons_zero, List.getElem_cons_succ]
          refine HeadG.take (i := 5) (v := ?hdv6x5) rfl (by kernel_rfl) (by kernel_rfl) (by kernel_rfl) (by kernel_rfl) (by kernel_rfl) (by kernel_rfl) (by kernel_rfl) (fun _ _ _ h => h) (Or.inl ⟨by rfl, ?hdy6x5⟩) hSd ?hdr6x5
          case hdy6x5 => (intro w' hSw; obtain ⟨⟨e1, e2, e3⟩, e4, e5, e6⟩ := HK2.out w' hSw; go_simp; try with_reducible rfl)
          try simp only [Act.put, List.setIfInBounds_toArray, List.set_cons_zero, List.set_cons_succ, List.getElem_toArray, List.getElem_cons_zero, List.getElem_cons_succ]
          refine HeadG.take (i := 6) (v := ?hdv7x6) rfl (by kernel_rfl) (by kernel_rfl) (by kernel_rfl) (by kernel_rfl) (by kernel_rfl) (by kernel_rfl) (by kernel_rfl) (fun _ _ _ h => h) (Or.inl ⟨by rfl, ?hdy7x6⟩) hSd ?hdr7x6
          case hdy7x6 => (intro w' hSw; obtain ⟨⟨e1, e2, e3⟩, e4, e5, e6⟩ := HK2.out w' hSw; go_simp; try with_reducible rfl)
          try simp only [Act.put, List.setIfInBounds_toArray, List.set_cons_zero, List.set_cons_succ, List.getElem_toArray, List.getElem_cons_zero, List.getElem_cons_succ]
          refine HeadG.take (i := 7) (v := ?hdv8x7) rfl (by kernel_rfl) (by kernel_rfl) (by kernel_rfl) (by kernel_rfl) (by kernel_rfl) (by kernel_rfl) (by kernel_rfl) (fun _ _ _ h => h) (Or.inl ⟨by rfl, ?hdy8x7⟩) hSd ?hdr8x7
          case hdy8x7 => (intro w' hSw; obtain ⟨⟨e1, e2, e3⟩, e4, e5, e6⟩ := HK2.out w' hSw; go_simp; try with_reducible rfl)
          try simp only [Act.put, List.setIfInBounds_toArray, List.set_cons_zero, List.set_cons_succ, List.getElem_toArray, List.getElem_cons_zero, List.getElem_cons_succ]
          refine HeadG.take (i := 8) (v := ?hdv9x8) rfl (by kernel_rfl) (by kernel_rfl) (by kernel_rfl) (by kernel_rfl) (by kernel_rfl) (by kernel_rfl) (by kernel_rfl) (fun _ _ _ h => h) (Or.inl ⟨by rfl, ?hdy9x8⟩) hSd ?hdr9x8
          case hdy9x8 => (intro w' hSw; obtain ⟨⟨e1, e2, e3⟩, e4, e5, e6⟩ := HK2.out w' hSw; go_simp; try with_reducible rfl)
          try simp only [Act.put, List.setIfInBounds_toArray, List.set_cons_zero, List.set_cons_succ, List.getElem_toArray, List.getElem_cons_zero, List.getElem_cons_succ]
          refine HeadG.one (i := 9) rfl (by kernel_rfl) (by kernel_rfl) (fun K9 hK9 => ?_)
          go_simp
          go_at_call 19
          with_reducible refine (HWDt.out _ hSd).mono ?_
          rintro e w5 ⟨R2, rfl, HR2, hO5⟩
          refine hK9.out _ _ (hSd.trans hO5) ?_
          clear hK9 K9
          try simp only [Act.put, List.setIfInBounds_toArray, List.set_cons_zero, List.set_cons_succ, List.getElem_toArray, List.getElem_cons_zero, List.getElem_cons_succ]
          have hSe := hSd.trans hO5
          refine HeadG.take (i := 10) (v := ?hdv10x10) rfl (by kernel_rfl) (by kernel_rfl) (by kernel_rfl) (by kernel_rfl) (by kernel_rfl) (by kernel_rfl) (by kernel_rfl) (fun _ _ _ h => h) (Or.inl ⟨by rfl, ?hdy10x10⟩) hSe ?hdr10x10
          case hdy10x10 => (intro w' hSw; skip; go_simp; try with_reducible rfl)
          try simp only [Act.put, List.setIfInBounds_toArray, List.set_cons_zero, List.set_cons_succ, List.getElem_toArray, List.getElem_cons_zero, List.getElem_cons_succ]
          refine HeadG.take (i := 11) (v := ?hdv11x11) rfl (by kernel_rfl) (by kernel_rfl) (by kernel_rfl) (by kernel_rfl) (by kernel_rfl) (by kernel_rfl) (by kernel_rfl) (fun _ _ _ h => h) (Or.inl ⟨by rfl, ?hdy11x11⟩) hSe ?hdr11x11
          case hdy11x11 => (intro w' hSw; skip; go_simp; try with_reducible rfl)
          try simp only [Act.put, List.setIfInBounds_toArray, List.set_cons_zero, List.set_cons_succ, List.getElem_toArray, List.getElem_cons_zero, List.getElem_cons_succ]
          refine HeadG.take (i := 12) (v := ?hdv12x12) rfl (by kernel_rfl) (by kernel_rfl) (by kernel_rfl) (by kernel_rfl) (by kernel_rfl) (by kernel_rfl) (by kernel_rfl) (fun _ _ _ h => h) (Or.inl ⟨by rfl, ?hdy12x12⟩) hSe ?hdr12x12
          case hdy12x12 => (intro w' hSw; skip; go_simp; try with_reducible rfl)
          try simp only [Act.put, List.setIfInBounds_toArray, List.set_cons_zero, List.set_cons_succ, List.getElem_toArray, List.getElem_cons_zero, List.getElem_cons_succ]
          refine HeadG.take (i := 13) (v := ?hdv13x13) rfl (by kernel_rfl) (by kernel_rfl) (by kernel_rfl) (by kernel_rfl) (by kernel_rfl) (by kernel_rfl) (by kernel_rfl) (fun _ _ _ h => h) (Or.inl ⟨by rfl, ?hdy13x13⟩) hSe ?hdr13x13
          case hdy13x13 => (intro w' hSw; skip; go_simp; try with_reducible rfl)
          try simp only [Act.put, List.setIfInBounds_toArray, List.set_cons_zero, List.set_cons_succ, List.getElem_toArray, List.getElem_cons_zero, List.getElem_cons_succ]
          refine HeadG.last (i := 14) rfl (by kernel_rfl) (by kernel_rfl) (by kernel_rfl) (fun K9 hK9 => ?_)
          go_simp
          refine hK9.out _ _ ?_
          clear hK9 K9
          try simp only [Act.put, List.setIfInBounds_toArray, List.set_cons_zero, List.set_cons_succ, List.getElem_toArray, List.getElem_cons_zero, List.getElem_cons_succ]
          have HC : Hid (On wp w5) := hSe
          clear hSe hSd hO5 HWDt
          obtain ⟨⟨e1, e2, e3⟩, e4, e5, e6⟩ := HK2.out _ HC.out
          go_wp2_with fail
          with_reducible refine (HNXt.out _ HC.out).mono ?_
          rintro e w6 ⟨rfl, hO6⟩
          have hAl := (On.refl hO6.tab).alloc (.cells #[.int .i64 X, .int .i64 ((K - 3 * (t + 1) : Nat) : Int), .int .u64 ((WS (t + 1) : Nat) : Int)] 24)
          have HVN := Lib.hid (vb_new w6 #[.int .i64 X, .int .i64 ((K - 3 * (t + 1) : Nat) : Int), .int .u64 ((WS (t + 1) : Nat) : Int)] 24)
          have HR2 : Hid (Blk R2 (w6.alloc (.cells #[.int .i64 X, .int .i64 ((K - 3 * (t + 1) : Nat) : Int), .int .u64 ((WS (t + 1) : Nat) : Int)] 24)) (WV (t + 1))) := (HR2.out.1.on hO6).on hAl
          have HC : Hid (On wp (w6.alloc (.cells #[.int .i64 X, .int .i64 ((K - 3 * (t + 1) : Nat) : Int), .int .u64 ((WS (t + 1) : Nat) : Int)] 24))) := (HC.out.trans hO6).trans hAl
          clear hO6 hAl e1 e2 e3 e4 e5 e6 HNXt
          go_upto_region 19 with fail
          obtain ⟨w7, hw7⟩ : ∃ w7, w7 = w6.alloc (.cells #[.int .i64 X, .int .i64 ((K - 3 * (t + 1) : Nat) : Int), .int .u64 ((WS (t + 1) : Nat) : Int)] 24) := ⟨_, rfl⟩
          rw [← hw7]
          rw [← hw7] at HVN HR2 HC
          clear hw7
          generalize w6.heap.size = BN at *
          obtain ⟨⟨e1, e2, e3⟩, e4, e5, e6⟩ := HK2.out _ HC.out
          obtain ⟨t1, ht1⟩ : ∃ t1, t1 = t + 1 := ⟨_, rfl⟩
          have hwt : (t : Int) + 1 = (t1 : Int) := by omega
          have hwt2 : IntKind.i64.wrap (t1 : Int) = (t1 : Int) := IntWalk.i64_in _ (by omega)
          have hwt3 : (t1 : Int) < (kz : Int) + 1 := by omega
          have e7 : w7.cell? ⟨bl, t1, none⟩ = some (.slice (some ⟨gn, 0, none⟩) (WV (t + 1)).length (WV (t + 1)).length) := by rw [ht1]; exact e5
          clear hb2 e5 ht1
          go_wp2_with fail
          with_reducible refine (HSMt.out _ _ _ HC.out (HRWn.out _ _ HR2.out) (HRWn.out _ _ (HBN.out.on HC.out))).mono ?_
          rintro e w8 ⟨rfl, hO8⟩
          have HVN := Lib.hid (VB.on HVN.out hO8); have HR2 := Lib.hid (HR2.out.on hO8)
          have HC : Hid (On wp w8) := HC.out.trans hO8
          clear hO8 e1 e2 e3 e4 e6 e7 hwt hwt2 hwt3 HSMt
          obtain ⟨n1, n2, n3⟩ := VB.cells3 HVN.out
          go_wp2_with fail
          with_reducible refine (HSZt.out _ HC.out).mono ?_
          rintro e w9 ⟨rfl, hO9⟩
          have HVN := Lib.hid (VB.on HVN.out hO9); have HR2 := Lib.hid (HR2.out.on hO9)
          have HC : Hid (On wp w9) := HC.out.trans hO9
          clear hO9 n1 n2 n3 HSZt
          go_upto_region 22 with fail
          have HK3 : Hid (∀ (i : Nat) wq, i < (WV (t + 1)).length → On w9 wq → (wq.cell? ⟨B0, 0, none⟩ = some (.int .i64 X) ∧ wq.cell? ⟨B0, 1, none⟩ = some (.int .i64 ((K - 3 * t : Nat) : Int)) ∧ wq.cell? ⟨B0, 2, none⟩ = some (.int .u64 ((WS t : Nat) : Int))) ∧ wq.cell? ⟨bl, t, none⟩ = some (.slice (some ⟨gt, 0, none⟩) (WV t).length (WV t).length) ∧ wq.cell? ⟨bz, oz + t, none⟩ = some (.int .u64 (z : Int)) ∧ wq.cell? ⟨R2, i, none⟩ = some (.int .u64 (((WV (t + 1)).getD i 0 : Nat) : Int))) := fun i wq hi hq => by
            obtain ⟨h1, h2, h3, h4⟩ := HK2.out wq (HC.out.trans hq)
            exact ⟨h1, h2, h4, (HR2.out.on hq).cell i hi⟩
          clear HK2
          go_loopw [22] (fun vi wr => ∃ i : Nat, i ≤ (WV (t + 1)).length ∧ vi = .int .i64 (i : Int) ∧ Hid (On w9 wr)) (fun vi _ => (WV (t + 1)).length - (intOf vi).toNat)
          case atStart => exact ⟨0, Nat.zero_le _, rfl, On.refl HC.out.tab⟩
          case round =>
            rename World => ws
            obtain ⟨i, hi, rfl, HO⟩ := hrel
            by_cases hil : i < (WV (t + 1)).length
            · have HKI : Hid (∀ wq, On w9 wq → _) := fun wq h => HK3.out i wq hil h
              have HP : Hid (∀ wq, On w9 wq → Calls Tryd.prog 42 #[.agg #[.int .i64 X, .int .i64 ((K - 3 * t : Nat) : Int), .int .u64 ((WS t : Nat) : Int)], .int .i64 (i : Int)] wq fun e w'' => e = .returned (.int .u64 ((ptF X (K - 3 * t : Nat) (WS t) i : Nat) : Int)) ∧ On w9 w'') := fun wq h => (HPTt.out i wq hil (HC.out.trans h)).mono fun e w'' ⟨h1, h2⟩ => ⟨h1, h.trans h2⟩
              have HL : Hid (∀ wq, On w9 wq → Calls Tryd.prog 23 #[.agg #[.int .i64 X, .int .i64 ((K - 3 * t : Nat) : Int), .int .u64 ((WS t : Nat) : Int)], .slice (some ⟨gt, 0, none⟩) (WV t).length (WV t).length, .int .i64 (i : Int)] wq fun e w'' => e = .returned (arrV (leafL X (WV t) i (2 ^ (K - 3 * t) / 8))) ∧ On w9 w'') := fun wq h => (HLFt.out i wq hil (HC.out.trans h)).mono fun e w'' ⟨h1, h2⟩ => ⟨h1, h.trans h2⟩
              have HA : Hid (∀ wq, On w9 wq → Calls Tryd.prog 14 #[.int .i64 X, .int .u64 ((ptF X (K - 3 * t : Nat) (WS t) i : Nat) : Int), arrV (leafL X (WV t) i (2 ^ (K - 3 * t) / 8)), .int .u64 (z : Int)] wq fun e w'' => e = .returned (.int .u64 (((WV (t + 1)).getD i 0 : Nat) : Int)) ∧ On w9 w'') := fun wq h => (HATt.out i wq hil (HC.out.trans h)).mono fun e w'' ⟨h1, h2⟩ => ⟨h1, h.trans h2⟩
              generalize ptF X (K - 3 * t : Nat) (WS t) i = px at *
              generalize arrV (leafL X (WV t) i (2 ^ (K - 3 * t) / 8)) = lf at *
              generalize (WV (t + 1)).getD i 0 = y at *
              go_upto_region 24 with fail
              refine region_keep_tail (fun wq => On w9 wq) 21 (by kernel_rfl) (by kernel_rfl) HO.out.drew ?_
              simp only [List.take_succ_cons, List.take_zero, List.drop_succ_cons, List.drop_zero]
              refine quiet_start fun L9 hL9 => ?_
              refine quiet_take (v := ?mv0) hL9 (by kernel_rfl) (fun wq hwq => ?my0) (fun L9 hL9 => ?mr0)
              case my0 => (go_simp; try with_reducible rfl)
              try simp only [Act.put, List.setIfInBounds_toArray, List.set_cons_zero, List.set_cons_succ, List.getElem_toArray, List.getElem_cons_zero, List.getElem_cons_succ]
              refine quiet_take (v := ?mv1) hL9 (by kernel_rfl) (fun wq hwq => ?my1) (fun L9 hL9 => ?mr1)
              case my1 => (go_simp; try with_reducible rfl)
              try simp only [Act.put, List.setIfInBounds_toArray, List.set_cons_zero, List.set_cons_succ, List.getElem_toArray, List.getElem_cons_zero, List.getElem_cons_succ]
              refine quiet_take (v := ?mv2) hL9 (by kernel_rfl) (fun wq hwq => ?my2) (fun L9 hL9 => ?mr2)
              case my2 => (go_simp; try with_reducible rfl)
              try simp only [Act.put, List.setIfInBounds_toArray, List.set_cons_zero, List.set_cons_succ, List.getElem_toArray, List.getElem_cons_zero, List.getElem_cons_succ]
              refine quiet_take (v := ?mv3) hL9 (by kernel_rfl) (fun wq hwq => ?my3) (fun L9 hL9 => ?mr3)
              case my3 => (obtain ⟨⟨e1, e2, e3⟩, e4, e5, e6⟩ := HKI.out wq hwq; go_simp; try with_reducible rfl)
              try simp only [Act.put, List.setIfInBounds_toArray, List.set_cons_zero, List.set_cons_succ, List.getElem_toArray, List.getElem_cons_zero, List.getElem_cons_succ]
              refine quiet_take (v := ?mv4) hL9 (by kernel_rfl) (fun wq hwq => ?my4) (fun L9 hL9 => ?mr4)
              case my4 => (go_simp; try with_reducible rfl)
              try simp only [Act.put, List.setIfInBounds_toArray, List.set_cons_zero, List.set_cons_succ, List.getElem_toArray, List.getElem_cons_zero, List.getElem_cons_succ]
              refine quiet_take (v := ?mv5) hL9 (by kernel_rfl) (fun wq hwq => ?my5) (fun L9 hL9 => ?mr5)
              case my5 => (obtain ⟨⟨e1, e2, e3⟩, e4, e5, e6⟩ := HKI.out wq hwq; go_simp; try with_reducible rfl)
              try simp only [Act.put, List.setIfInBounds_toArray, List.set_cons_zero, List.set_cons_succ, List.getElem_toArray, List.getElem_cons_zero, List.getElem_cons_succ]
              refine quiet_take (v := ?mv6) hL9 (by kernel_rfl) (fun wq hwq => ?my6) (fun L9 hL9 => ?mr6)
              case my6 => (obtain ⟨⟨e1, e2, e3⟩, e4, e5, e6⟩ := HKI.out wq hwq; go_simp; try with_reducible rfl)
              try simp only [Act.put, List.setIfInBounds_toArray, List.set_cons_zero, List.set_cons_succ, List.getElem_toArray, List.getElem_cons_zero, List.getElem_cons_succ]
              refine quiet_take (v := ?mv7) hL9 (by kernel_rfl) (fun wq hwq => ?my7) (fun L9 hL9 => ?mr7)
              case my7 => (go_simp; try with_reducible rfl)
              try simp only [Act.put, List.setIfInBounds_toArray, List.set_cons_zero, List.set_cons_succ, List.getElem_toArray, List.getElem_cons_zero, List.getElem_cons_succ]
              refine quiet_take (v := .int .u64 (px : Int)) hL9 (by kernel_rfl) (fun wq hwq => ?my8) (fun L9 hL9 => ?mr8)
              case my8 => (go_simp; go_at_call 42; exact HP.out wq hwq)
              try simp only [Act.put, List.setIfInBounds_toArray, List.set_cons_zero, List.set_cons_succ, List.getElem_toArray, List.getElem_cons_zero, List.getElem_cons_succ]
              refine quiet_take (v := ?mv9) hL9 (by kernel_rfl) (fun wq hwq => ?my9) (fun L9 hL9 => ?mr9)
              case my9 => (obtain ⟨⟨e1, e2, e3⟩, e4, e5, e6⟩ := HKI.out wq hwq; go_simp; try with_reducible rfl)
              try simp only [Act.put, List.setIfInBounds_toArray, List.set_cons_zero, List.set_cons_succ, List.getElem_toArray, List.getElem_cons_zero, List.getElem_cons_succ]
              refine quiet_take (v := ?mv10) hL9 (by kernel_rfl) (fun wq hwq => ?my10) (fun L9 hL9 => ?mr10)
              case my10 => (go_simp; try with_reducible rfl)
              try simp only [Act.put, List.setIfInBounds_toArray, List.set_cons_zero, List.set_cons_succ, List.getElem_toArray, List.getElem_cons_zero, List.getElem_cons_succ]
              refine quiet_take (v := ?mv11) hL9 (by kernel_rfl) (fun wq hwq => ?my11) (fun L9 hL9 => ?mr11)
              case my11 => (go_simp; try with_reducible rfl)
              try simp only [Act.put, List.setIfInBounds_toArray, List.set_cons_zero, List.set_cons_succ, List.getElem_toArray, List.getElem_cons_zero, List.getElem_cons_succ]
              refine quiet_take (v := ?mv12) hL9 (by kernel_rfl) (fun wq hwq => ?my12) (fun L9 hL9 => ?mr12)
              case my12 => (go_simp; try with_reducible rfl)
              try simp only [Act.put, List.setIfInBounds_toArray, List.set_cons_zero, List.set_cons_succ, List.getElem_toArray, List.getElem_cons_zero, List.getElem_cons_succ]
              refine quiet_take (v := ?mv13) hL9 (by kernel_rfl) (fun wq hwq => ?my13) (fun L9 hL9 => ?mr13)
              case my13 => (obtain ⟨⟨e1, e2, e3⟩, e4, e5, e6⟩ := HKI.out wq hwq; go_simp; try with_reducible rfl)
              try simp only [Act.put, List.setIfInBounds_toArray, List.set_cons_zero, List.set_cons_succ, List.getElem_toArray, List.getElem_cons_zero, List.getElem_cons_succ]
              refine quiet_take (v := ?mv14) hL9 (by kernel_rfl) (fun wq hwq => ?my14) (fun L9 hL9 => ?mr14)
              case my14 => (go_simp; try with_reducible rfl)
              try simp only [Act.put, List.setIfInBounds_toArray, List.set_cons_zero, List.set_cons_succ, List.getElem_toArray, List.getElem_cons_zero, List.getElem_cons_succ]
              refine quiet_take (v := lf) hL9 (by kernel_rfl) (fun wq hwq => ?my15) (fun L9 hL9 => ?mr15)
              case my15 => (go_simp; go_at_call 23; exact HL.out wq hwq)
              try simp only [Act.put, List.setIfInBounds_toArray, List.set_cons_zero, List.set_cons_succ, List.getElem_toArray, List.getElem_cons_zero, List.getElem_cons_succ]
              refine quiet_take (v := ?mv16) hL9 (by kernel_rfl) (fun wq hwq => ?my16) (fun L9 hL9 => ?mr16)
              case my16 => (go_simp; try with_reducible rfl)
              try simp only [Act.put, List.setIfInBounds_toArray, List.set_cons_zero, List.set_cons_succ, List.getElem_toArray, List.getElem_cons_zero, List.getElem_cons_succ]
              refine quiet_take (v := ?mv17) hL9 (by kernel_rfl) (fun wq hwq => ?my17) (fun L9 hL9 => ?mr17)
              case my17 => (go_simp; try with_reducible rfl)
              try simp only [Act.put, List.setIfInBounds_toArray, List.set_cons_zero, List.set_cons_succ, List.getElem_toArray, List.getElem_cons_zero, List.getElem_cons_succ]
              refine quiet_take (v := ?mv18) hL9 (by kernel_rfl) (fun wq hwq => ?my18) (fun L9 hL9 => ?mr18)
              case my18 => (go_simp; try with_reducible rfl)
              try simp only [Act.put, List.setIfInBounds_toArray, List.set_cons_zero, List.set_cons_succ, List.getElem_toArray, List.getElem_cons_zero, List.getElem_cons_succ]
              refine quiet_take (v := ?mv19) hL9 (by kernel_rfl) (fun wq hwq => ?my19) (fun L9 hL9 => ?mr19)
              case my19 => (obtain ⟨⟨e1, e2, e3⟩, e4, e5, e6⟩ := HKI.out wq hwq; go_simp; try with_reducible rfl)
              try simp only [Act.put, List.setIfInBounds_toArray, List.set_cons_zero, List.set_cons_succ, List.getElem_toArray, List.getElem_cons_zero, List.getElem_cons_succ]
              refine quiet_take (v := .int .u64 (y : Int)) hL9 (by kernel_rfl) (fun wq hwq => ?my20) (fun L9 hL9 => ?mr20)
              case my20 => (go_simp; go_at_call 14; exact HA.out wq hwq)
              try simp only [Act.put, List.setIfInBounds_toArray, List.set_cons_zero, List.set_cons_succ, List.getElem_toArray, List.getElem_cons_zero, List.getElem_cons_succ]
              refine quiet_nil hL9 ?_
              clear hL9
              intro wf hOf
              have HOf := Lib.hid hOf
              clear hOf HKI HP HL HA
              go_wp2
              go_roundw
              case rel => exact ⟨i + 1, by omega, by go_num, HOf⟩
              case measure => simp [intOf]; omega
            · obtain rfl : i = (WV (t + 1)).length := by omega
              have HC : Hid (On wp ws) := HC.out.trans HO.out
              have HVN := Lib.hid (VB.on HVN.out HO.out)
              have HV4 := Lib.hid (HS.out.1.on HC.out)
              obtain ⟨n1, n2, n3⟩ := VB.cells3 HVN.out
              obtain ⟨d1, d2, d3⟩ := HV4.out.cells3
              have f1 := HV4.out.2.2 0
              have f2 := HV4.out.2.2 1
              have f3 := HV4.out.2.2 2
              have HFN : Hid (VB B0 (((ws.setCell ⟨B0, 0, none⟩ (.int .i64 X)).setCell ⟨B0, 1, none⟩ (.int .i64 ((K - 3 * (t + 1) : Nat) : Int))).setCell ⟨B0, 2, none⟩ (.int .u64 ((WS (t + 1) : Nat) : Int))) (dmL X ((K - 3 * (t + 1) : Nat) : Int) (WS (t + 1))) ∧ WB BL (((ws.setCell ⟨B0, 0, none⟩ (.int .i64 X)).setCell ⟨B0, 1, none⟩ (.int .i64 ((K - 3 * (t + 1) : Nat) : Int))).setCell ⟨B0, 2, none⟩ (.int .u64 ((WS (t + 1) : Nat) : Int))) (.slice (some ⟨bl, 0, none⟩) (kz + 1) lc) (kz + 1) WV ∧ Reads (((ws.setCell ⟨B0, 0, none⟩ (.int .i64 X)).setCell ⟨B0, 1, none⟩ (.int .i64 ((K - 3 * (t + 1) : Nat) : Int))).setCell ⟨B0, 2, none⟩ (.int .u64 ((WS (t + 1) : Nat) : Int))) (.slice (some ⟨bz, oz, none⟩) kz cz) zs ∧ On w (((ws.setCell ⟨B0, 0, none⟩ (.int .i64 X)).setCell ⟨B0, 1, none⟩ (.int .i64 ((K - 3 * (t + 1) : Nat) : Int))).setCell ⟨B0, 2, none⟩ (.int .u64 ((WS (t + 1) : Nat) : Int)))) := by
                have hge := HGE.out
                refine ⟨((HV4.out.set 0 _ (by simp [dmL])).set 1 _ (by simp [dmL])).set 2 _ (by simp [dmL]), ((((HS.out.2.1.on HC.out).other ⟨B0, 0, none⟩ HBL.out _).other ⟨B0, 1, none⟩ HBL.out _).other ⟨B0, 2, none⟩ HBL.out _), (HS.out.2.2.1.on HC.out).ap ((((Ap.refl B0 ws).setCell 0 _).setCell 1 _).setCell 2 _) HOFF.out, (((HS.out.2.2.2.trans HC.out).setCell hge _).setCell hge _).setCell hge _⟩
              clear HK3
              go_wp2_with fail
              go_roundw
              case rel => exact ⟨t + 1, by omega, by go_num, HFN⟩
              case measure => simp [intOf]; omega
        · obtain rfl : t = kz := by omega
          have HON := Lib.hid HS.out.2.2.2
          go_wp2_with fail
          with_reducible refine (HWK.out _ HON.out).mono ?_
          rintro e we ⟨rfl, hOe⟩
          have HON := Lib.hid (HON.out.trans hOe)
          clear hOe
          go_wp2
          go_ret
          exact ⟨rfl, HON.out⟩
theorem steps_any (A0 K0 s0 : Nat) (lv lz : List Nat) (vv vz : Value) (w : World) (hT : Tab w) (hD : TabD w) (hA1 : A0 ≤ 255) (hK1 : K0 ≤ 255) (hs0 : s0 ≤ 18446744073709551615) (hRv : Reads w vv lv) (hRz : Reads w vz lz) (hSz : Shape vz lz) :
    Calls Tryd.prog 8 #[.int .u8 (A0 : Int), .int .u8 (K0 : Int), .int .u64 (s0 : Int), vv, vz] w fun e w' => e = .returned (.bool true) ∧ On w w' :=
  steps_core ((A0 : Int) % 4) A0 K0 _ s0 _ lv lz vv vz w hT hD hA1 hK1 hs0 (by unfold validB; simp; omega) rfl rfl rfl hRv hRz hSz
end Go.Proofs.YtiibcfajcndcnaaDoor

/- FoldSteps returns true, for every input; no conditions but the tied tables. -/
namespace Go.Proofs.YtiibcfajcndcnaaDoor.foldSteps
open Go.ChangeShapes Go.WideShapes Go.ChangeAt Go.RowKit
set_option linter.unusedVariables false

theorem trodAll_five {H : Type} {enc : TypeId × Value → H} {P : Program} {w : World} {base : Nat} {spare : Nat → Bool} {held : Bool} {t0 t1 t2 t3 t4 : TypeId} {args : Array Value} {ds : List (DataW H)} {ps : List MemPlace} (h : DataW.TrodAll enc P w base spare held [t0, t1, t2, t3, t4] args.toList ds ps) :
    ∃ v0 v1 v2 v3 v4 d0 d1 d2 d3 d4 p0 p1 p2 p3 p4, args = #[v0, v1, v2, v3, v4] ∧ ds = [d0, d1, d2, d3, d4] ∧ ps = p0 ++ p1 ++ p2 ++ p3 ++ p4 ∧ DataW.Trod enc P w base spare held t0 v0 d0 p0 ∧ DataW.Trod enc P w base spare held t1 v1 d1 p1 ∧ DataW.Trod enc P w base spare held t2 v2 d2 p2 ∧ DataW.Trod enc P w base spare held t3 v3 d3 p3 ∧ DataW.Trod enc P w base spare held t4 v4 d4 p4 := by
  obtain ⟨v0, vs, d0, ds', p0, q, hargs, rfl, rfl, h0, h⟩ := trodAll_cons h
  obtain ⟨v1, vs, d1, ds', p1, q, rfl, rfl, rfl, h1, h⟩ := trodAll_cons h
  obtain ⟨v2, vs, d2, ds', p2, q, rfl, rfl, rfl, h2, h⟩ := trodAll_cons h
  obtain ⟨v3, vs, d3, ds', p3, q, rfl, rfl, rfl, h3, h⟩ := trodAll_cons h
  obtain ⟨v4, vs, d4, ds', p4, q, rfl, rfl, rfl, h4, h⟩ := trodAll_cons h
  obtain ⟨rfl, rfl, rfl⟩ := trodAll_nil h
  exact ⟨v0, v1, v2, v3, v4, d0, d1, d2, d3, d4, p0, p1, p2, p3, p4, by cases args; simp_all, rfl, by simp, h0, h1, h2, h3, h4⟩

set_option maxRecDepth 100000 in
theorem lifted (os : Os) (started : os.Started) (H : Type) (enc : TypeId × Value → H) :
    ReturnsInHanded {} Tryd.checked os 8 .any (fun w args => (Rows.foldStepsSpec.pre enc Tryd.prog Tryd.f8 Rows.foldStepsRow.domain false w args ∧ laidMetH Tryd.prog laidL w) ∧ sizedMet enc Tryd.prog Tryd.f8 (OpenSpec.ofChange Rows.foldStepsSpec) false w args)
      (Rows.foldStepsSpec.post enc Tryd.prog Tryd.f8 false true false false) := by
  refine returnsInHanded_of_change_and (C := Tryd.checked) (X := fun w _ => laidMetH Tryd.prog laidL w) (fun _ _ _ hh h => h.of_heap hh) own started (by kernel_rfl) Tryd.func8
    (ChangeSpec.witness_shaped (enc := enc) (C := Tryd.checked) (os := os) (X := fun w _ => laidMetH Tryd.prog laidL w) false (World.laidAll Tryd.prog os laidL) #[.int .u8 0, .int .u8 0, .int .u64 0, .slice none 0 0, .slice none 0 0] 8 (World.laidAll_os _ _ _)
      (World.shaped_of_ZipB (by kernel_rfl) (by kernel_rfl)) (by kernel_rfl) (by kernel_rfl) (by kernel_rfl)
      (by rw [MakeChecks.laidMetH_plain _ _ _ (by kernel_rfl)]; exact laidMet_laidAll _ (by kernel_rfl) (by kernel_rfl))) ?_
  intro W base args ds gs before hval0 hW hc _ hL _
  have hval : ∀ (j : Nat) t v, Tryd.f8.params[j]? = some t → args[j]? = some v → Value.okWide Tryd.prog W .any base t v := hval0
  have hW' := hW
  obtain ⟨p, q, hA0, hV, rfl, _, _⟩ := hW
  have hA : DataW.TrodAll enc Tryd.prog W 0 (fun _ => true) true Tryd.f8.params.toList args.toList ds p := hA0
  rw [Tryd.params8] at hA hval
  obtain ⟨v0, v1, v2, v3, v4, d0, d1, d2, d3, d4, p0, p1, p2, p3, p4, rfl, rfl, rfl, h0, h1, h2, h3, h4⟩ := trodAll_five hA
  obtain ⟨rfl, rfl⟩ := trodVars_none hV
  obtain ⟨x0, rfl, rfl, rfl, wx0⟩ := open_int Tryd.underlying5 (hval 0 5 v0 rfl rfl) h0
  have b0 := bounds_u8 wx0
  obtain ⟨n0, rfl⟩ : ∃ n : Nat, x0 = n := ⟨x0.toNat, by omega⟩
  obtain ⟨x1, rfl, rfl, rfl, wx1⟩ := open_int Tryd.underlying5 (hval 1 5 v1 rfl rfl) h1
  have b1 := bounds_u8 wx1
  obtain ⟨n1, rfl⟩ : ∃ n : Nat, x1 = n := ⟨x1.toNat, by omega⟩
  obtain ⟨x2, rfl, rfl, rfl, wx2⟩ := open_int Tryd.underlying22 (hval 2 22 v2 rfl rfl) h2
  have b2 := bounds_u64 wx2
  obtain ⟨n2, rfl⟩ : ∃ n : Nat, x2 = n := ⟨x2.toNat, by omega⟩
  obtain ⟨l3, hR3, hz3⟩ := arg_list (hval 3 33 v3 rfl rfl) h3
  obtain ⟨l4, hR4, hz4⟩ := arg_list (hval 4 33 v4 rfl rfl) h4
  clear hA0 hval0
  simp only [List.append_nil] at hW'
  have hT := tab_of_laid hL
  have hD := tabd_of_laid hL
  have fin : Calls Tryd.prog 8 #[.int .u8 (n0 : Int), .int .u8 (n1 : Int), .int .u64 (n2 : Int), v3, v4] W fun e w' => e = .returned (.bool true) ∧ On W w' := by
    exact steps_any n0 n1 n2 l3 l4 _ _ W hT hD (by omega) (by omega) (by omega) hR3 hR4 hz4
  refine fin.mono fun e W' ⟨he, hg⟩ => ?_
  subst he
  exact ⟨_, rfl, law_ends hW' rfl rfl rfl (by kernel_rfl) hg.2⟩

theorem row_holds : Rows.FoldStepsSaid :=
  OpenClaim.holds_of_wide 8 Tryd.f8 rfl rfl rfl rfl rfl rfl rfl ⟨rfl, rfl, rfl, rfl, rfl⟩ rfl rfl rfl rfl rfl (by kernel_rfl) Tryd.func8 (by kernel_rfl)
    (of_decide_eq_true (by kernel_rfl)) (by unfold Func.isWrapper; first | (rw [if_pos (by decide +kernel)]; kernel_rfl) | (rw [if_neg (by decide +kernel)]; exact ⟨rfl, rfl⟩))
    (fun os started H enc _ => lifted os started H enc)
theorem card_holds : Rows.FoldStepsCardSaid :=
  Claim7.holds_tied_plain_at .later [] [.data, .data, .data] true Rows.foldStepsCard.stood.harness false row_holds (fun _ h => by cases h) (by kernel_rfl) (fun _ h => by cases h) foldSteps_row_tie rfl ⟨rfl, rfl⟩ (by kernel_rfl) rfl
    (fun f fn hf hfn => by
      obtain rfl : f = 8 := Option.some.inj ((show Tryd.prog.funcNamed "attestor/attestorlaw09.FoldSteps" = some 8 by kernel_rfl).symm.trans hf) |>.symm
      obtain rfl : fn = Tryd.f8 := (Option.some.inj (Tryd.func8.symm.trans hfn)).symm
      exact ⟨by kernel_rfl, fun j t ht => by
        rw [Tryd.params8] at ht
        have hm : t ∈ [5, 5, 22, 33, 33] := by simpa using Array.mem_of_getElem? ht
        have hall : ([5, 5, 22, 33, 33].all fun u => !Tryd.prog.wantsStandIn u) = true := by kernel_rfl
        exact (show Tryd.prog.wantsStandIn t = false by simpa using List.all_eq_true.1 hall t hm)⟩)
    (by kernel_rfl)
#print axioms card_holds
end Go.Proofs.YtiibcfajcndcnaaDoor.foldSteps
