/- diff, shifted and product of package ratio. -/
import Derived.Test.YtdgmlmcllkgemaaMake
namespace Go.Proofs.Ytdgmlmcllkgemaa
open Go.RowKit
set_option linter.unusedVariables false

theorem takeOff_nil (y : Nat) (ob : Option Addr) (cb : Nat) (w : World) :
    Calls Try.prog 88 #[.slice none 0 0, .slice ob 0 cb, .int .u64 1] w fun e w' => e = .returned (.bool false) ∧ w' = w := by
  go_enter Try.func88, Try.ntmps88
  go_wp2
  refine wp_loop_rounds 1 ?_
  rw [rounds_succ]
  go_wp2
  go_ret
  exact ⟨rfl, rfl⟩
theorem diff_any (va vb : Value) (x y : Nat) (w : World) (ha : Nv w va x) (hb : Nv w vb y) (hyx : y ≤ x) (hx : nl x ≤ 1000000) :
    Calls Try.prog 63 #[va, vb] w fun e w' => ∃ v, e = .returned v ∧ Nv w' v (x - y) ∧ On w w' := by
  obtain ⟨ob, cb, rfl, h3, h4, hS⟩ := hb
  have HA := Lib.hid ha; clear ha
  have HS := Lib.hid hS; clear hS
  have HO := Lib.hid (HS.out.old (Nat.le_refl _))
  rcases Nat.eq_zero_or_pos x with h0 | h0
  · subst h0
    obtain rfl : y = 0 := by omega
    rw [nl_zero] at h3 ⊢
    go_enter Try.func63, Try.ntmps63
    go_wp2_with (first
      | (go_at_call 81; refine (copied_any va (nl 0) 0 _ HA.out (lt_nl 0) (by rw [nl_zero]; omega)).mono ?_; rintro e w1 ⟨v, rfl, hv, hOn, -, hnil⟩; obtain rfl := hnil rfl; clear hnil; have HOn := Lib.hid hOn; clear hOn hv)
      | (go_at_call 88; refine (takeOff_nil 0 _ _ _).mono ?_; rintro e w2 ⟨rfl, rfl⟩)
      | (go_at_call 73; refine (trim_lv (.slice none 0 0) (nl 0) 0 _ (Nv.nil _) (lt_nl 0)).mono ?_; rintro e w3 ⟨⟨v', rfl, hv'⟩, rfl⟩; have HV := Lib.hid hv'; clear hv'))
    go_ret
    exact ⟨_, rfl, HV.out, HOn.out⟩
  · have hle : nl y ≤ nl x := nl_mono hyx
    have HLT : Hid ((x : Int) - ((1 * y : Nat) : Int) = ((x - y : Nat) : Int)) := by unfold Hid; omega
    have HLX : Hid (x - y < 4294967296 ^ nl x) := Nat.lt_of_le_of_lt (Nat.sub_le _ _) (lt_nl x)
    clear hyx
    go_enter Try.func63, Try.ntmps63
    go_wp2_with (first
      | (go_at_call 81; refine (copied_any va (nl x) x _ HA.out (lt_nl x) (by omega)).mono ?_; rintro e w1 ⟨v, rfl, hv, hOn, hbl, -⟩; obtain ⟨rfl, hf⟩ := hbl h0; have HOn := Lib.hid hOn; have HF := Lib.hid hf; have HV1 := Lib.hid hv; clear hOn hv hf hbl)
      | (go_at_call 88; refine (takeOff_any w.heap.size 0 (nl x) (nl x) (nl y) cb x y 1 ob w1 (Nat.le_refl _) (by omega) (Nv.cells HV1.out) HF.out (HS.out.on HOn.out) HO.out hle (lt_nl y) (lt_nl x) (by omega)).mono ?_; rintro e w2 ⟨rfl, hw2⟩; rw [HLT.out] at hw2; have H2 := Lib.hid hw2; clear hw2)
      | (go_at_call 73; refine (trim_lv _ (nl x) (x - y) _ (H2.out.lv (Nat.le_refl _) (by omega)) HLX.out).mono ?_; rintro e w3 ⟨⟨v', rfl, hv'⟩, rfl⟩; have HV := Lib.hid hv'; clear hv'))
    go_ret
    exact ⟨_, rfl, HV.out, HOn.out.ap (Nat.le_refl _) H2.out.ap⟩

/-- shifted: one limb more than the list has, in memory of the call's own. -/
theorem shifted_any (va : Value) (x s : Nat) (w : World) (ha : Nv w va x) (hs : s < 32) (hx : nl x ≤ 1000000) :
    Calls Try.prog 83 #[va, .int .i64 (s : Int)] w fun e w' => e = .returned (.slice (some ⟨w.heap.size, 0, none⟩) (nl x + 1) (nl x + 1)) ∧ (∀ k, k < nl x + 1 → w'.cell? ⟨w.heap.size, 0 + k, none⟩ = some (.int .u32 ((dg ((x * 2 ^ s : Nat) : Int) k : Nat) : Int))) ∧ (∀ k, w'.frozen? ⟨w.heap.size, k, none⟩ = false) ∧ w'.heap.size = w.heap.size + 1 ∧ On w w' := by
  obtain ⟨oa, ca, rfl, h1, h2, hR⟩ := ha
  have hmk := make_run1 (nl x) (by omega) w
  have HR := Lib.hid ((hR.on ((On.refl w).alloc (.cells (madeCells #[.int .u32 0] (nl x + 1)) 54))))
  have HO := Lib.hid (hR.old (Nat.le_refl _))
  have hsh : (2 : Nat) ^ s ≤ 2147483648 := Nat.pow_le_pow_right (by decide) (show s ≤ 31 by omega)
  have HP : Hid (0 + 2 ^ s * x = x * 2 ^ s) := by unfold Hid; rw [Nat.mul_comm, Nat.zero_add]
  clear hR
  obtain ⟨p, hp⟩ : ∃ p : Nat, p = 2 ^ s := ⟨_, rfl⟩
  rw [← hp] at hsh HP
  have hpi : (2 : Int) ^ s = (p : Int) := by rw [hp, Int.natCast_pow]; rfl
  have HPE := Lib.hid hp; clear hp
  go_enter Try.func83, Try.ntmps83
  go_wp2_with (first
    | (go_at_call 86; refine (putOn_any w.heap.size 0 (nl x + 1) (nl x + 1) (nl x) ca 0 x p oa _ (Nat.le_refl _) (by omega) (fun k hk => made_cell w _ k hk) (fun k => made_free w _ k) HR.out HO.out (by omega) (lt_nl x) (pw_pos _) (by omega)).mono ?_; rintro e w2 ⟨rfl, hw2⟩; have H2 := Lib.hid hw2; clear hw2))
  go_ret
  have hp2 := HP.out
  rw [HPE.out] at hp2 H2
  rw [hp2] at H2
  exact ⟨rfl, H2.out.cells, H2.out.free, by rw [H2.out.ap.size]; simp, ((On.refl w).alloc _).ap (Nat.le_refl _) H2.out.ap⟩
end Go.Proofs.Ytdgmlmcllkgemaa
