/- The document's own lowest and New: what each call returns. -/
import Derived.Test.YtdgmlmcllkgemaaQj
import Derived.Test.YtdgmlmcllkgemaaNew
namespace Go.Proofs.Ytdgmlmcllkgemaa
open Go.RowKit
set_option linter.unusedVariables false

/-- A fraction and an error. -/
abbrev AnsF (P : Program) (fn : FuncId) (args : Array Value) (w : World) (p q : Nat) (c : Int) : Prop :=
  Calls P fn args w fun e w' => (∃ v, e = .returned (.tuple #[v, .int .i64 c]) ∧ Fv w' v p q) ∧ On w w'
set_option maxHeartbeats 1000000 in
theorem rlow_any (va vb : Value) (x y : Nat) (w : World) (ha : Nu w va x) (hb : Nu w vb y) (hx : nl x ≤ 1000) (hy : nl y ≤ 1000) (hy0 : 0 < y) :
    AnsF Try.prog 76 #[va, vb] w (fitP (x / Nat.gcd x y) (y / Nat.gcd x y)) (fitQ (x / Nat.gcd x y) (y / Nat.gcd x y)) (fitC (x / Nat.gcd x y) (y / Nat.gcd x y)) := by
  have hg0 : 0 < Nat.gcd x y := Nat.gcd_pos_of_pos_right _ hy0
  have hgn : nl (Nat.gcd x y) ≤ 1000 := Nat.le_trans (nl_mono (Nat.gcd_le_right _ hy0)) hy
  have hO0 : On w (w.alloc (.cells #[.slice none 0 0, .slice none 0 0] 41)) := (On.refl w).alloc _
  have HA := Lib.hid (ha.on hO0); have HB := Lib.hid (hb.on hO0)
  clear ha hb hO0
  obtain ⟨g, hg⟩ : ∃ g, g = Nat.gcd x y := ⟨_, rfl⟩
  obtain ⟨P, hP⟩ : ∃ P, P = x / g := ⟨_, rfl⟩
  obtain ⟨Q, hQ⟩ : ∃ Q, Q = y / g := ⟨_, rfl⟩
  rw [← hg] at hg0 hgn ⊢
  rw [← hP, ← hQ]
  have HG0 := Lib.hid hg
  have HPE := Lib.hid hP; have HQE := Lib.hid hQ
  clear hg hP hQ
  go_enter Try.func76, Try.ntmps76
  go_wp2_with fail
  refine (rgcd_any _ _ x y _ HA.out HB.out hx hy).mono ?_
  rintro e w2 ⟨⟨vg, rfl, hg⟩, hOn⟩
  rw [← HG0.out] at hg
  have HG := Lib.hid hg.1; have HO := Lib.hid hOn
  clear hg hOn
  go_wp2_with fail
  refine (rquotient_any va vg x g w2 (HA.out.1.on HO.out) HG.out.1 hg0 hx hgn).mono ?_
  rintro e w3 ⟨⟨vq, vr, rfl, hq, -⟩, hOn⟩
  rw [← HPE.out] at hq
  have HQ := Lib.hid hq.1; have HO3 := Lib.hid (HO.out.trans hOn); have HG3 := Lib.hid (HG.out.on hOn)
  clear hq hOn
  go_wp2_with fail
  refine (rquotient_any vb vg y g w3 (HB.out.1.on HO3.out) HG3.out.1 hg0 hy hgn).mono ?_
  rintro e w4 ⟨⟨vs, vt, rfl, hq, -⟩, hOn⟩
  rw [← HQE.out] at hq
  have HS := Lib.hid hq.1; have HQ4 := Lib.hid (HQ.out.on hOn); have HO4 := Lib.hid (HO3.out.trans hOn)
  clear hq hOn HG HG3
  obtain ⟨op, cp, rfl, -, -, -⟩ := id HQ4.out
  obtain ⟨oz, cz, rfl, -, -, -⟩ := id HS.out
  by_cases hf : nl P ≤ 64 ∧ nl Q ≤ 64
  · have hfit : fitB P Q = true := by unfold fitB; simp; exact hf
    have HF : Hid (fitC P Q = 0 ∧ fitP P Q = P ∧ fitQ P Q = Q) := ⟨if_pos hfit, if_pos hfit, if_pos hfit⟩
    have h1 : ¬ ((64 : Int) < ((nl P : Nat) : Int)) := by omega
    have h2 : ¬ ((64 : Int) < ((nl Q : Nat) : Int)) := by omega
    obtain ⟨k1, k2, k3, k4, k5, k6, k7⟩ := res_facts HO4.out (.slice op (nl P) cp) (.slice oz (nl Q) cz)
    clear hfit hf
    go_wp2
    (try simp only [Exit.inBlock, Exit.then])
    refine bodyPost_ret (by simp [results, Try.results76, go_sem, k6, k7]; try rfl) rfl ?_
    rw [HF.out.1, HF.out.2.1, HF.out.2.2]
    exact ⟨⟨_, rfl, (res_end HO4.out HQ4.out HS.out).1⟩, (res_end HO4.out HQ4.out HS.out).2⟩
  · have hfit : fitB P Q = false := by unfold fitB; simp; omega
    have HF : Hid (fitC P Q = 3 ∧ fitP P Q = 0 ∧ fitQ P Q = 0) := by
      unfold Hid fitC fitP fitQ; rw [hfit]; simp
    have h1 : (64 : Int) < ((nl P : Nat) : Int) ∨ (¬ ((64 : Int) < ((nl P : Nat) : Int)) ∧ (64 : Int) < ((nl Q : Nat) : Int)) := by omega
    obtain ⟨k1, k2, k3, k4, k5, k6, k7⟩ := res_facts HO4.out (.slice none 0 0) (.slice none 0 0)
    clear hfit hf
    rcases h1 with h1 | ⟨h1, h2⟩
    all_goals
      go_wp2
      (try simp only [Exit.inBlock, Exit.then])
      refine bodyPost_ret (by simp [results, Try.results76, go_sem, k6, k7]; try rfl) rfl ?_
      rw [HF.out.1, HF.out.2.1, HF.out.2.2]
      exact ⟨⟨_, rfl, (res_end HO4.out (Nv.nil _) (Nv.nil _)).1⟩, (res_end HO4.out (Nv.nil _) (Nv.nil _)).2⟩
theorem rNew_bad (va vb : Value) (m x n y : Nat) (w : World) (ha : Lv w va m (x : Int)) (hx : x < 4294967296 ^ m) (hb : Lv w vb n (y : Int)) (hy : y < 4294967296 ^ n) (hv : (okB m x && okB n y) = false) :
    AnsF Try.prog 42 #[va, vb] w 0 0 1 := by
  have hO : On w (w.alloc (.cells #[.slice none 0 0, .slice none 0 0] 41)) := (On.refl w).alloc _
  have HVA := Lib.hid (rvalid_lv va m x _ (ha.on hO) hx); have HVB := Lib.hid (rvalid_lv vb n y _ (hb.on hO) hy)
  clear ha hb hx hy hO
  cases h1 : okB m x
  · rw [h1] at HVA
    clear h1 hv
    go_enter Try.func42, Try.ntmps42
    go_wp2_with (go_at_call 11; (with_reducible refine HVA.out.mono ?_); rintro e w' ⟨rfl, rfl⟩)
    first | go_ret | go_returns | go_ret2
    exact ⟨⟨_, rfl, Fv.zero _⟩, (On.refl w).alloc _⟩
  · rw [h1] at HVA
    rw [h1, Bool.true_and] at hv
    rw [hv] at HVB
    clear h1 hv
    go_enter Try.func42, Try.ntmps42
    go_wp2_with (first
      | (go_at_call 11; (with_reducible refine HVA.out.mono ?_); rintro e w' ⟨rfl, rfl⟩)
      | (go_at_call 11; (with_reducible refine HVB.out.mono ?_); rintro e w' ⟨rfl, rfl⟩))
    first | go_ret | go_returns | go_ret2
    exact ⟨⟨_, rfl, Fv.zero _⟩, (On.refl w).alloc _⟩
set_option maxHeartbeats 1000000 in
theorem rNew_yes (va vb : Value) (x y : Nat) (w : World) (ha : Nu w va x) (hb : Nu w vb y) (hx : nl x ≤ 64) (hy : nl y ≤ 64) :
    AnsF Try.prog 42 #[va, vb] w (if y = 0 then 0 else x / Nat.gcd x y) (if y = 0 then 0 else y / Nat.gcd x y) (if y = 0 then 2 else 0) := by
  have hO : On w (w.alloc (.cells #[.slice none 0 0, .slice none 0 0] 41)) := (On.refl w).alloc _
  obtain ⟨n, hn⟩ : ∃ n, n = nl y := ⟨_, rfl⟩
  have hoy : okB n y = true := by rw [hn, okB_nl]; simp [hy]
  have hox : okB (nl x) x = true := by rw [okB_nl]; simp [hx]
  have hbn : Lv w vb n (y : Int) := by rw [hn]; exact hb.1
  have HVA := Lib.hid (rvalid_lv va (nl x) x _ (ha.on hO).1 (lt_nl x)); have HVB := Lib.hid (rvalid_lv vb n y _ (hbn.on hO) (by rw [hn]; exact lt_nl y))
  rw [hox] at HVA
  rw [hoy] at HVB
  obtain ⟨ob, cb, rfl, -, -, -⟩ := id hbn
  have HAu := Lib.hid (ha.on hO); have HBu := Lib.hid (hb.on hO)
  clear hbn hoy hox ha hb hO
  rcases Nat.eq_zero_or_pos y with hy0 | hy0
  · rw [if_pos hy0, if_pos hy0, if_pos hy0]
    have hn0 : n = 0 := by rw [hn, hy0, nl_zero]
    clear hn hy0
    subst hn0
    go_enter Try.func42, Try.ntmps42
    go_wp2_with (first
      | (go_at_call 11; (with_reducible refine HVA.out.mono ?_); rintro e w' ⟨rfl, rfl⟩)
      | (go_at_call 11; (with_reducible refine HVB.out.mono ?_); rintro e w' ⟨rfl, rfl⟩))
    first | go_ret | go_returns | go_ret2
    exact ⟨⟨_, rfl, Fv.zero _⟩, (On.refl w).alloc _⟩
  · have hyn : ¬ y = 0 := by omega
    rw [if_neg hyn, if_neg hyn, if_neg hyn]
    have hnz : (((n : Nat) : Int) == 0) = false := by have := nl_pos hy0; simp; omega
    have HL := Lib.hid (rlow_any va (.slice ob n cb) x y _ HAu.out HBu.out (by omega) (by omega) hy0)
    have hfit : fitB (x / Nat.gcd x y) (y / Nat.gcd x y) = true := by
      have h1 := nl_mono (Nat.div_le_self x (Nat.gcd x y))
      have h2 := nl_mono (Nat.div_le_self y (Nat.gcd x y))
      unfold fitB; simp; omega
    rw [show fitC (x / Nat.gcd x y) (y / Nat.gcd x y) = 0 from if_pos hfit, show fitP (x / Nat.gcd x y) (y / Nat.gcd x y) = x / Nat.gcd x y from if_pos hfit, show fitQ (x / Nat.gcd x y) (y / Nat.gcd x y) = y / Nat.gcd x y from if_pos hfit] at HL
    obtain ⟨P, hP⟩ : ∃ P, P = x / Nat.gcd x y := ⟨_, rfl⟩
    obtain ⟨Q, hQ⟩ : ∃ Q, Q = y / Nat.gcd x y := ⟨_, rfl⟩
    rw [← hP, ← hQ] at HL ⊢
    clear hP hQ hfit hn hyn hy0 HAu HBu
    go_enter Try.func42, Try.ntmps42
    go_wp2_with (first
      | (go_at_call 11; (with_reducible refine HVA.out.mono ?_); rintro e w' ⟨rfl, rfl⟩)
      | (go_at_call 11; (with_reducible refine HVB.out.mono ?_); rintro e w' ⟨rfl, rfl⟩)
      | (go_at_call 76; refine HL.out.mono ?_; rintro e w5 ⟨⟨v, rfl, ⟨vp, vz, rfl, hp, hz⟩⟩, hOn⟩; have HP := Lib.hid hp; have HZ := Lib.hid hz; have HO5 := Lib.hid hOn; obtain ⟨op, cp, rfl, -, -, -⟩ := hp; obtain ⟨oz, cz, rfl, -, -, -⟩ := hz; clear hOn; obtain ⟨k1, k2, k3, k4, k5, k6, k7⟩ := res_facts HO5.out (.slice op (nl P) cp) (.slice oz (nl Q) cz)))
    (try simp only [Exit.inBlock, Exit.then])
    refine bodyPost_ret (by simp [results, Try.results42, go_sem, k6, k7]; try rfl) rfl ?_
    exact ⟨⟨_, rfl, (res_end HO5.out HP.out HZ.out).1⟩, (res_end HO5.out HP.out HZ.out).2⟩
/-- New of two numbers, the program's and the document's own. -/
theorem new_pair (x y : Nat) (hx : nl x ≤ 64) (hy : nl y ≤ 64) :
    ∃ p q c, (∀ va vb w, Nv w va x → Nv w vb y → AnsF Try.prog 41 #[va, vb] w p q c) ∧ ∀ va vb w, Nu w va x → Nu w vb y → AnsF Try.prog 42 #[va, vb] w p q c := by
  refine ⟨_, _, _, fun va vb w h h' => ?_, fun va vb w h h' => rNew_yes va vb x y w h h' hx hy⟩
  rcases Nat.eq_zero_or_pos y with rfl | hy0
  · exact (New_zero va vb x w h hx h').mono fun e w' ⟨v, h1, h2, h3⟩ => ⟨⟨v, h1, h2⟩, h3⟩
  · have hyn : ¬ y = 0 := by omega
    rw [if_neg hyn, if_neg hyn, if_neg hyn]
    exact (New_yes va vb x y w h h' hx hy hy0).mono fun e w' ⟨v, h1, h2, h3⟩ => ⟨⟨v, h1, h2⟩, h3⟩
end Go.Proofs.Ytdgmlmcllkgemaa
