/- The document's own Value and Text, and each beside the program's: the same answers. -/
import Derived.Test.YthgidehapcfciaaDoorKx22
import Derived.Test.YthgidehapcfciaaDoorKx23
import Derived.Test.YthgidehapcfciaaDoorKx14
import Derived.Test.YthgidehapcfciaaDoorKx16
set_option linter.unusedSimpArgs false
set_option linter.unusedVariables false
/- The document's own Value and Text, and each beside the program's: the same answers. -/
namespace Go.Proofs.YthgidehapcfciaaDoor.Rt
set_option maxRecDepth 100000
--
open Go.RowKit
set_option linter.unusedVariables false

end Go.Proofs.YthgidehapcfciaaDoor.Rt

/- The document's own Text, beside the program's: the same answers. -/
namespace Go.Proofs.YthgidehapcfciaaDoor.Rt
set_option maxRecDepth 100000
--
open Go.RowKit
set_option linter.unusedVariables false

theorem ten_limb (y j : Nat) : (y / 4294967296 ^ (j + 1) % 10 * 4294967296 + dg (y : Int) j) / 10 = dg ((y / 10 : Nat) : Int) j ∧ (y / 4294967296 ^ (j + 1) % 10 * 4294967296 + dg (y : Int) j) % 10 = y / 4294967296 ^ j % 10 := by
  have e1 : y / 4294967296 ^ (j + 1) = y / 4294967296 ^ j / 4294967296 := by rw [Nat.pow_succ, Nat.div_div_eq_div_mul]
  have e2 : dg ((y / 10 : Nat) : Int) j = y / 4294967296 ^ j / 10 % 4294967296 := by
    rw [dg_nat, Nat.div_div_eq_div_mul, Nat.mul_comm, ← Nat.div_div_eq_div_mul]
  rw [e1, e2, dg_nat]
  omega
theorem digit_slice (r : Nat) (h : r < 10) : (⟨#[48, 49, 50, 51, 52, 53, 54, 55, 56, 57]⟩ : ByteArray).extract r (r + 1) = ⟨[dgt r].toArray⟩ := by
  have : r = 0 ∨ r = 1 ∨ r = 2 ∨ r = 3 ∨ r = 4 ∨ r = 5 ∨ r = 6 ∨ r = 7 ∨ r = 8 ∨ r = 9 := by omega
  rcases this with rfl | rfl | rfl | rfl | rfl | rfl | rfl | rfl | rfl | rfl <;> rfl
theorem valid_both (m x : Nat) (hx : x < 4294967296 ^ m) : ∃ b, (∀ v w, Lz w v m x → AnsE Tryd.prog 122 #[v] w (.bool b)) ∧ ∀ v w, Lz w v m x → AnsE Tryd.prog 109 #[v] w (.bool b) :=
  ⟨_, fun v w h => (valid_lv v m x w h.1 hx).mono fun e w' ⟨h1, h2⟩ => ⟨h1, h2 ▸ On.refl w⟩, fun v w h => (rvalid_lv v m x w h.1 hx).mono fun e w' ⟨h1, h2⟩ => ⟨h1, h2 ▸ On.refl w⟩⟩
theorem same_nv (va vb : Value) (N : Nat) (w : World) (ha : Nv w va N) (hb : Nv w vb N) : AnsE Tryd.prog 46 #[va, vb] w (.bool true) :=
  rsame_any va vb (nl N) (N : Int) w ha hb
theorem same_lz (va vb : Value) (m x : Nat) (w : World) (ha : Lz w va m x) (hb : Lz w vb m x) : AnsE Tryd.prog 46 #[va, vb] w (.bool true) :=
  rsame_any va vb m (x : Int) w ha.1 hb.1
theorem Rd.cut {w : World} {oa : Option Addr} {k m x : Nat} (h : Rd w oa m (x : Int)) (hk : k ≤ m) : Rd w oa k ((x % 4294967296 ^ k : Nat) : Int) := fun j hj => by
  obtain ⟨b, off, h1, h2⟩ := h j (by omega)
  exact ⟨b, off, h1, by rw [Int.natCast_emod, pw_cast, dg_mod _ hj]; exact h2⟩
end Go.Proofs.YthgidehapcfciaaDoor.Rt

/- The document's own natural, Nat and Parse, beside the program's. -/
namespace Go.Proofs.YthgidehapcfciaaDoor.Rt
set_option maxRecDepth 100000
--
open Go.RowKit
set_option linter.unusedVariables false

theorem rnat_any (n : Nat) (w : World) (hn : n ≤ 18446744073709551615) :
    Calls Tryd.prog 82 #[.int .u64 (n : Int)] w fun e w' => (∃ v, e = .returned v ∧ Nu w' v n) ∧ On w w' := by
  have h1 : (n : Int) % 4294967296 = ((n % 4294967296 : Nat) : Int) := by omega
  have h2 : (n : Int) / 4294967296 % 4294967296 = ((n / 4294967296 : Nat) : Int) := by omega
  have h3 : (n : Int) / 4294967296 = ((n / 4294967296 : Nat) : Int) := by omega
  have HE : Hid (n % 4294967296 + 4294967296 * (n / 4294967296) = n) := by unfold Hid; omega
  have HL : Hid (n < 4294967296 ^ 2) := by unfold Hid; simp; omega
  have HB1 : Hid (n % 4294967296 < 4294967296) := Nat.mod_lt _ (by decide)
  have HB2 : Hid (n / 4294967296 < 4294967296) := by unfold Hid; omega
  have H := Lib.hid (two_cells w (n % 4294967296) (n / 4294967296) HB1.out HB2.out)
  rw [HE.out] at H
  generalize hx : n % 4294967296 = a at *
  generalize hy : n / 4294967296 = b at *
  clear hx hy
  go_enter Tryd.func82, Tryd.ntmps82
  go_wp2_with (go_at_call 110; refine (rtrim_any _ 2 n _ H.out (Zc.some _ _ _) HL.out (by omega)).mono ?_; rintro e w5 ⟨⟨v', rfl, hv'⟩, hO5⟩; have HV := Lib.hid hv'.1; have HO5 := Lib.hid (((On.refl w).alloc _).trans hO5); clear hv' hO5)
  go_ret
  exact ⟨⟨_, rfl, HV.out⟩, HO5.out⟩
theorem text_nl {l : List UInt8} (ht : textB l = true) : nl (numOf l) ≤ l.length ∧ (700 < l.length → ¬ nl (numOf l) ≤ 64) := by
  have hall : l.all digitB = true := by
    unfold textB at ht
    rw [Bool.and_eq_true] at ht
    exact ht.1
  refine ⟨(nl_le _ _).2 (Nat.lt_of_lt_of_le (numOf_lt hall) (Nat.pow_le_pow_left (by decide) _)), fun h h2 => ?_⟩
  have h3 := (dec_len _ h2).1
  rw [dec_numOf ht] at h3
  omega
/-- A number with its room, and an error. -/
abbrev AnsU (P : Program) (fn : FuncId) (args : Array Value) (w : World) (N : Nat) (c : Int) : Prop :=
  Calls P fn args w fun e w' => (∃ v, e = .returned (.tuple #[v, .int .i64 c]) ∧ Nu w' v N) ∧ On w w'
theorem AnsU.n {P : Program} {fn : FuncId} {args : Array Value} {w : World} {N : Nat} {c : Int} (h : AnsU P fn args w N c) : AnsN P fn args w N c := h.mono fun _ _ ⟨⟨v, h1, h2⟩, h3⟩ => ⟨⟨v, h1, h2.1⟩, h3⟩
theorem nat_pair (n : Nat) (hn : n ≤ 18446744073709551615) (w : World) : AnsV Tryd.prog 76 #[.int .u64 (n : Int)] w n ∧ AnsV Tryd.prog 82 #[.int .u64 (n : Int)] w n :=
  ⟨(nat_any n w hn).mono fun e w' ⟨v, h1, h2, h3⟩ => ⟨⟨v, h1, h2⟩, h3⟩, (rnat_any n w hn).mono fun e w' ⟨⟨v, h1, h2⟩, h3⟩ => ⟨⟨v, h1, h2.1⟩, h3⟩⟩
end Go.Proofs.YthgidehapcfciaaDoor.Rt

/- The document's own lowest and New: what each call returns. -/
namespace Go.Proofs.YthgidehapcfciaaDoor.Rt
set_option maxRecDepth 100000
--
open Go.RowKit
set_option linter.unusedVariables false

/-- A fraction and an error. -/
abbrev AnsF (P : Program) (fn : FuncId) (args : Array Value) (w : World) (p q : Nat) (c : Int) : Prop :=
  Calls P fn args w fun e w' => (∃ v, e = .returned (.tuple #[v, .int .i64 c]) ∧ Fv w' v p q) ∧ On w w'
set_option maxHeartbeats 1000000 in
theorem rlow_any (va vb : Value) (x y : Nat) (w : World) (ha : Nu w va x) (hb : Nu w vb y) (hx : nl x ≤ 1000) (hy : nl y ≤ 1000) (hy0 : 0 < y) :
    AnsF Tryd.prog 85 #[va, vb] w (fitP (x / Nat.gcd x y) (y / Nat.gcd x y)) (fitQ (x / Nat.gcd x y) (y / Nat.gcd x y)) (fitC (x / Nat.gcd x y) (y / Nat.gcd x y)) := by
  have hg0 : 0 < Nat.gcd x y := Nat.gcd_pos_of_pos_right _ hy0
  have hgn : nl (Nat.gcd x y) ≤ 1000 := Nat.le_trans (nl_mono (Nat.gcd_le_right _ hy0)) hy
  have hO0 : On w (w.alloc (.cells #[.slice none 0 0, .slice none 0 0] 26)) := (On.refl w).alloc _
  have HA := Lib.hid (ha.on hO0); have HB := Lib.hid (hb.on hO0)
  clear ha hb hO0
  obtain ⟨g, hg⟩ : ∃ g, g = Nat.gcd x y := ⟨_, rfl⟩
  obtain ⟨P, hP⟩ : ∃ P, P = x / g := ⟨_, rfl⟩
  obtain ⟨Q, hQ⟩ : ∃ Q, Q = y / g := ⟨_, rfl⟩
  rw [← hg] at hg0 hgn ⊢
  rw [← hP, ← hQ]
  have HG0 := Lib.hid hg
  have HPE := Lib.hid hP; have HQE := Lib.hid hQ
  clear hg hP hQ
  go_enter Tryd.func85, Tryd.ntmps85
  go_wp2_with fail
  refine (rgcd_any _ _ x y _ HA.out HB.out hx hy).mono ?_
  rintro e w2 ⟨⟨vg, rfl, hg⟩, hOn⟩
  rw [← HG0.out] at hg
  have HG := Lib.hid hg.1; have HO := Lib.hid hOn
  clear hg hOn
  go_wp2_with fail
  refine (rquotient_any va vg x g w2 (HA.out.1.on HO.out) HG.out.1 hg0 hx hgn).mono ?_
  rintro e w3 ⟨⟨vq, vr, rfl, hq, -⟩, hOn⟩
  rw [← HPE.out] at hq
  have HQ := Lib.hid hq.1; have HO3 := Lib.hid (HO.out.trans hOn); have HG3 := Lib.hid (HG.out.on hOn)
  clear hq hOn
  go_wp2_with fail
  refine (rquotient_any vb vg y g w3 (HB.out.1.on HO3.out) HG3.out.1 hg0 hy hgn).mono ?_
  rintro e w4 ⟨⟨vs, vt, rfl, hq, -⟩, hOn⟩
  rw [← HQE.out] at hq
  have HS := Lib.hid hq.1; have HQ4 := Lib.hid (HQ.out.on hOn); have HO4 := Lib.hid (HO3.out.trans hOn)
  clear hq hOn HG HG3
  obtain ⟨op, cp, rfl, -, -, -⟩ := id HQ4.out
  obtain ⟨oz, cz, rfl, -, -, -⟩ := id HS.out
  by_cases hf : nl P ≤ 64 ∧ nl Q ≤ 64
  · have hfit : fitB P Q = true := by unfold fitB; simp; exact hf
    have HF : Hid (fitC P Q = 0 ∧ fitP P Q = P ∧ fitQ P Q = Q) := ⟨if_pos hfit, if_pos hfit, if_pos hfit⟩
    have h1 : ¬ ((64 : Int) < ((nl P : Nat) : Int)) := by omega
    have h2 : ¬ ((64 : Int) < ((nl Q : Nat) : Int)) := by omega
    obtain ⟨k1, k2, k3, k4, k5, k6, k7⟩ := res_facts HO4.out (.slice op (nl P) cp) (.slice oz (nl Q) cz)
    clear hfit hf
    go_wp2
    (try simp only [Exit.inBlock, Exit.then])
    refine bodyPost_ret (by simp [results, Tryd.results85, go_sem, k6, k7]; try rfl) rfl ?_
    rw [HF.out.1, HF.out.2.1, HF.out.2.2]
    exact ⟨⟨_, rfl, (res_end HO4.out HQ4.out HS.out).1⟩, (res_end HO4.out HQ4.out HS.out).2⟩
  · have hfit : fitB P Q = false := by unfold fitB; simp; omega
    have HF : Hid (fitC P Q = 3 ∧ fitP P Q = 0 ∧ fitQ P Q = 0) := by
      unfold Hid fitC fitP fitQ; rw [hfit]; simp
    have h1 : (64 : Int) < ((nl P : Nat) : Int) ∨ (¬ ((64 : Int) < ((nl P : Nat) : Int)) ∧ (64 : Int) < ((nl Q : Nat) : Int)) := by omega
    obtain ⟨k1, k2, k3, k4, k5, k6, k7⟩ := res_facts HO4.out (.slice none 0 0) (.slice none 0 0)
    clear hfit hf
    rcases h1 with h1 | ⟨h1, h2⟩
    all_goals
      go_wp2
      (try simp only [Exit.inBlock, Exit.then])
      refine bodyPost_ret (by simp [results, Tryd.results85, go_sem, k6, k7]; try rfl) rfl ?_
      rw [HF.out.1, HF.out.2.1, HF.out.2.2]
      exact ⟨⟨_, rfl, (res_end HO4.out (Nv.nil _) (Nv.nil _)).1⟩, (res_end HO4.out (Nv.nil _) (Nv.nil _)).2⟩
theorem rNew_bad (va vb : Value) (m x n y : Nat) (w : World) (ha : Lv w va m (x : Int)) (hx : x < 4294967296 ^ m) (hb : Lv w vb n (y : Int)) (hy : y < 4294967296 ^ n) (hv : (okB m x && okB n y) = false) :
    AnsF Tryd.prog 81 #[va, vb] w 0 0 1 := by
  have hO : On w (w.alloc (.cells #[.slice none 0 0, .slice none 0 0] 26)) := (On.refl w).alloc _
  have HVA := Lib.hid (rvalid_lv va m x _ (ha.on hO) hx); have HVB := Lib.hid (rvalid_lv vb n y _ (hb.on hO) hy)
  clear ha hb hx hy hO
  cases h1 : okB m x
  · rw [h1] at HVA
    clear h1 hv
    go_enter Tryd.func81, Tryd.ntmps81
    go_wp2_with (go_at_call 109; (with_reducible refine HVA.out.mono ?_); rintro e w' ⟨rfl, rfl⟩)
    first | go_ret | go_returns | go_ret2
    exact ⟨⟨_, rfl, Fv.zero _⟩, (On.refl w).alloc _⟩
  · rw [h1] at HVA
    rw [h1, Bool.true_and] at hv
    rw [hv] at HVB
    clear h1 hv
    go_enter Tryd.func81, Tryd.ntmps81
    go_wp2_with (first
      | (go_at_call 109; (with_reducible refine HVA.out.mono ?_); rintro e w' ⟨rfl, rfl⟩)
      | (go_at_call 109; (with_reducible refine HVB.out.mono ?_); rintro e w' ⟨rfl, rfl⟩))
    first | go_ret | go_returns | go_ret2
    exact ⟨⟨_, rfl, Fv.zero _⟩, (On.refl w).alloc _⟩
set_option maxHeartbeats 1000000 in
theorem rNew_yes (va vb : Value) (x y : Nat) (w : World) (ha : Nu w va x) (hb : Nu w vb y) (hx : nl x ≤ 64) (hy : nl y ≤ 64) :
    AnsF Tryd.prog 81 #[va, vb] w (if y = 0 then 0 else x / Nat.gcd x y) (if y = 0 then 0 else y / Nat.gcd x y) (if y = 0 then 2 else 0) := by
  have hO : On w (w.alloc (.cells #[.slice none 0 0, .slice none 0 0] 26)) := (On.refl w).alloc _
  obtain ⟨n, hn⟩ : ∃ n, n = nl y := ⟨_, rfl⟩
  have hoy : okB n y = true := by rw [hn, okB_nl]; simp [hy]
  have hox : okB (nl x) x = true := by rw [okB_nl]; simp [hx]
  have hbn : Lv w vb n (y : Int) := by rw [hn]; exact hb.1
  have HVA := Lib.hid (rvalid_lv va (nl x) x _ (ha.on hO).1 (lt_nl x)); have HVB := Lib.hid (rvalid_lv vb n y _ (hbn.on hO) (by rw [hn]; exact lt_nl y))
  rw [hox] at HVA
  rw [hoy] at HVB
  obtain ⟨ob, cb, rfl, -, -, -⟩ := id hbn
  have HAu := Lib.hid (ha.on hO); have HBu := Lib.hid (hb.on hO)
  clear hbn hoy hox ha hb hO
  rcases Nat.eq_zero_or_pos y with hy0 | hy0
  · rw [if_pos hy0, if_pos hy0, if_pos hy0]
    have hn0 : n = 0 := by rw [hn, hy0, nl_zero]
    clear hn hy0
    subst hn0
    go_enter Tryd.func81, Tryd.ntmps81
    go_wp2_with (first
      | (go_at_call 109; (with_reducible refine HVA.out.mono ?_); rintro e w' ⟨rfl, rfl⟩)
      | (go_at_call 109; (with_reducible refine HVB.out.mono ?_); rintro e w' ⟨rfl, rfl⟩))
    first | go_ret | go_returns | go_ret2
    exact ⟨⟨_, rfl, Fv.zero _⟩, (On.refl w).alloc _⟩
  · have hyn : ¬ y = 0 := by omega
    rw [if_neg hyn, if_neg hyn, if_neg hyn]
    have hnz : (((n : Nat) : Int) == 0) = false := by have := nl_pos hy0; simp; omega
    have HL := Lib.hid (rlow_any va (.slice ob n cb) x y _ HAu.out HBu.out (by omega) (by omega) hy0)
    have hfit : fitB (x / Nat.gcd x y) (y / Nat.gcd x y) = true := by
      have h1 := nl_mono (Nat.div_le_self x (Nat.gcd x y))
      have h2 := nl_mono (Nat.div_le_self y (Nat.gcd x y))
      unfold fitB; simp; omega
    rw [show fitC (x / Nat.gcd x y) (y / Nat.gcd x y) = 0 from if_pos hfit, show fitP (x / Nat.gcd x y) (y / Nat.gcd x y) = x / Nat.gcd x y from if_pos hfit, show fitQ (x / Nat.gcd x y) (y / Nat.gcd x y) = y / Nat.gcd x y from if_pos hfit] at HL
    obtain ⟨P, hP⟩ : ∃ P, P = x / Nat.gcd x y := ⟨_, rfl⟩
    obtain ⟨Q, hQ⟩ : ∃ Q, Q = y / Nat.gcd x y := ⟨_, rfl⟩
    rw [← hP, ← hQ] at HL ⊢
    clear hP hQ hfit hn hyn hy0 HAu HBu
    go_enter Tryd.func81, Tryd.ntmps81
    go_wp2_with (first
      | (go_at_call 109; (with_reducible refine HVA.out.mono ?_); rintro e w' ⟨rfl, rfl⟩)
      | (go_at_call 109; (with_reducible refine HVB.out.mono ?_); rintro e w' ⟨rfl, rfl⟩)
      | (go_at_call 85; refine HL.out.mono ?_; rintro e w5 ⟨⟨v, rfl, ⟨vp, vz, rfl, hp, hz⟩⟩, hOn⟩; have HP := Lib.hid hp; have HZ := Lib.hid hz; have HO5 := Lib.hid hOn; obtain ⟨op, cp, rfl, -, -, -⟩ := hp; obtain ⟨oz, cz, rfl, -, -, -⟩ := hz; clear hOn; obtain ⟨k1, k2, k3, k4, k5, k6, k7⟩ := res_facts HO5.out (.slice op (nl P) cp) (.slice oz (nl Q) cz)))
    (try simp only [Exit.inBlock, Exit.then])
    refine bodyPost_ret (by simp [results, Tryd.results81, go_sem, k6, k7]; try rfl) rfl ?_
    exact ⟨⟨_, rfl, (res_end HO5.out HP.out HZ.out).1⟩, (res_end HO5.out HP.out HZ.out).2⟩
/-- New of two numbers, the program's and the document's own. -/
theorem new_pair (x y : Nat) (hx : nl x ≤ 64) (hy : nl y ≤ 64) :
    ∃ p q c, (∀ va vb w, Nv w va x → Nv w vb y → AnsF Tryd.prog 75 #[va, vb] w p q c) ∧ ∀ va vb w, Nu w va x → Nu w vb y → AnsF Tryd.prog 81 #[va, vb] w p q c := by
  refine ⟨_, _, _, fun va vb w h h' => ?_, fun va vb w h h' => rNew_yes va vb x y w h h' hx hy⟩
  rcases Nat.eq_zero_or_pos y with rfl | hy0
  · exact (New_zero va vb x w h hx h').mono fun e w' ⟨v, h1, h2, h3⟩ => ⟨⟨v, h1, h2⟩, h3⟩
  · have hyn : ¬ y = 0 := by omega
    rw [if_neg hyn, if_neg hyn, if_neg hyn]
    exact (New_yes va vb x y w h h' hx hy hy0).mono fun e w' ⟨v, h1, h2, h3⟩ => ⟨⟨v, h1, h2⟩, h3⟩
end Go.Proofs.YthgidehapcfciaaDoor.Rt

/- Read, the program's and the document's own: the same answers. -/
namespace Go.Proofs.YthgidehapcfciaaDoor.Rt
set_option maxRecDepth 100000
--
open Go.RowKit
set_option linter.unusedVariables false

end Go.Proofs.YthgidehapcfciaaDoor.Rt

/- Read of the document's own; and beside the program's: the same answers. -/
namespace Go.Proofs.YthgidehapcfciaaDoor.Rt
set_option maxRecDepth 100000
--
open Go.RowKit
set_option linter.unusedVariables false

theorem slash_at (a b : List UInt8) : (∀ k (h : k < (a ++ 47 :: b).length), k < a.length → (47 : UInt8) ∉ a → (a ++ 47 :: b)[k].toNat ≠ 47) ∧ ∀ h : a.length < (a ++ 47 :: b).length, (a ++ 47 :: b)[a.length].toNat = 47 := by
  refine ⟨fun k h hk hn e => hn ?_, fun h => ?_⟩
  · rw [List.getElem_append_left hk] at e
    have : a[k] = 47 := UInt8.toNat_inj.1 (by rw [e]; rfl)
    rw [← this]; exact List.getElem_mem hk
  · rw [List.getElem_append_right (Nat.le_refl _)]; simp
theorem slash_runs (a b : List UInt8) (hl : (a ++ 47 :: b).length ≤ 9223372036854775807) (W : World) :
    (Instr.slice 9 (.string ⟨(a ++ 47 :: b).toArray⟩) none (some (.int .i64 (a.length : Int))) none).run Tryd.prog W = .ok (.string ⟨a.toArray⟩) W ∧
    (Instr.slice 9 (.string ⟨(a ++ 47 :: b).toArray⟩) (some (.int .i64 ((a.length : Int) + 1))) none none).run Tryd.prog W = .ok (.string ⟨b.toArray⟩) W := by
  have hlen : (a ++ 47 :: b).length = a.length + 1 + b.length := by rw [List.length_append, List.length_cons]; omega
  have hs : (⟨(a ++ 47 :: b).toArray⟩ : ByteArray).size = a.length + 1 + b.length := hlen
  constructor
  · rw [run_slice_string_to_if (P := Tryd.prog) (w := W) 9 _ .i64 _ Tryd.underlying9]
    rw [if_pos (by rw [hs]; omega)]
    rw [Int.toNat_natCast, extract_str]
    simp
  · rw [run_slice_string_from_if (P := Tryd.prog) (w := W) 9 _ .i64 _ Tryd.underlying9]
    rw [if_pos (by rw [hs]; omega)]
    rw [show ((a.length : Int) + 1).toNat = a.length + 1 by omega, extract_str, hs]
    have e : ((a ++ 47 :: b).take (a.length + 1 + b.length)).drop (a.length + 1) = b := by
      rw [List.take_of_length_le (by omega), show a ++ 47 :: b = (a ++ [47]) ++ b by simp, List.drop_left' (by simp)]
    rw [e]
theorem cut_slash : ∀ l : List UInt8, (47 : UInt8) ∉ l ∨ ∃ a b, l = a ++ 47 :: b ∧ (47 : UInt8) ∉ a := by
  intro l
  induction l with
  | nil => exact .inl (by simp)
  | cons c t ih =>
    by_cases h : c = 47
    · exact .inr ⟨[], t, by rw [h]; rfl, by simp⟩
    · rcases ih with ih | ⟨a, b, rfl, ih⟩
      · exact .inl (by simp [ih]; exact fun e => h e.symm)
      · exact .inr ⟨c :: a, b, rfl, by simp [ih]; exact fun e => h e.symm⟩
end Go.Proofs.YthgidehapcfciaaDoor.Rt

/- The document's own Same of fractions; the walk of RatioTexts. -/
namespace Go.Proofs.YthgidehapcfciaaDoor.Rt
set_option maxRecDepth 100000
--
open Go.RowKit
set_option linter.unusedVariables false

set_option maxHeartbeats 1000000 in
theorem rfsame (vx vy : Value) (p q : Nat) (w : World) (hx : Fv w vx p q) (hy : Fv w vy p q) : AnsE Tryd.prog 10 #[vx, vy] w (.bool true) := by
  obtain ⟨vxp, vxq, rfl, hxp, hxq⟩ := hx
  obtain ⟨vyp, vyq, rfl, hyp, hyq⟩ := hy
  have HXP := Lib.hid hxp; have HXQ := Lib.hid hxq; have HYP := Lib.hid hyp; have HYQ := Lib.hid hyq
  obtain ⟨o1, c1, rfl, -, -, -⟩ := hxp
  obtain ⟨o2, c2, rfl, -, -, -⟩ := hxq
  obtain ⟨o3, c3, rfl, -, -, -⟩ := hyp
  obtain ⟨o4, c4, rfl, -, -, -⟩ := hyq
  have hF4 := box_two w (.slice o1 (nl p) c1) (.slice o2 (nl q) c2) (.slice o3 (nl p) c3) (.slice o4 (nl q) c4)
  have HO3 : Hid (On w ((w.alloc (.cells #[.slice o1 (nl p) c1, .slice o2 (nl q) c2] 26)).alloc (.cells #[.slice o3 (nl p) c3, .slice o4 (nl q) c4] 26))) := ((On.refl w).alloc _).alloc _
  obtain ⟨u, hu⟩ : ∃ u, u = (w.alloc (.cells #[.slice o1 (nl p) c1, .slice o2 (nl q) c2] 26)).alloc (.cells #[.slice o3 (nl p) c3, .slice o4 (nl q) c4] 26) := ⟨_, rfl⟩
  have HU := Lib.hid hu
  rw [← hu] at hF4 HO3
  obtain ⟨f1, f2, f3, f4⟩ := hF4
  have HF := Lib.hid (And.intro f1 (And.intro f2 (And.intro f3 f4)))
  clear hu
  go_enter Tryd.func10, Tryd.ntmps10
  go_wp2_with (go_at_call 46; rw [← HU.out])
  refine (same_nv _ _ p u (HXP.out.on HO3.out) (HYP.out.on HO3.out)).mono ?_
  rintro e w2 ⟨rfl, hO⟩
  clear f1 f2 f3 f4
  obtain ⟨f1, f2, f3, f4⟩ := four_on HF.out hO
  have HO2 := Lib.hid (HO3.out.trans hO)
  clear hO
  go_wp2_with fail
  refine (same_nv _ _ q w2 (HXQ.out.on HO2.out) (HYQ.out.on HO2.out)).mono ?_
  rintro e w3 ⟨rfl, hO⟩
  have HO5 := Lib.hid (HO2.out.trans hO)
  clear hO
  go_wp2
  go_ret
  exact ⟨rfl, HO5.out⟩
end Go.Proofs.YthgidehapcfciaaDoor.Rt

/- The document's own Valid of a fraction. -/
namespace Go.Proofs.YthgidehapcfciaaDoor.Rt
set_option maxRecDepth 100000
--
open Go.RowKit
set_option linter.unusedVariables false

theorem rsamed_any (va vb : Value) (x y : Nat) (w : World) (ha : Nv w va x) (hb : Nv w vb y) :
    Calls Tryd.prog 46 #[va, vb] w fun e w' => e = .returned (.bool (decide (x = y))) ∧ ∃ n, w' = w.drewN n := by
  obtain ⟨oa, ca, rfl, h1, h2, hR⟩ := ha
  obtain ⟨ob, cb, rfl, h3, h4, hS⟩ := hb
  by_cases hl : nl x = nl y
  · have hlx := lt_nl x
    have hly := lt_nl y
    rw [← hl] at hS hly ⊢
    have hm : nl x ≤ 9223372036854775807 := by omega
    clear hl h1 h2 h3 h4
    generalize nl x = m at *
    have HLX := Lib.hid hlx; have HLY := Lib.hid hly; clear hlx hly
    have HR := Lib.hid hR; have HS := Lib.hid hS; clear hR hS
    go_enter Tryd.func46, Tryd.ntmps46
    go_hidden (go_wp2)
    go_loopw [5] (fun vi wr => ∃ k n : Nat, vi = .int .i64 (k : Int) ∧ k ≤ m ∧ Hid (∀ j, j < k → dg (x : Int) j = dg (y : Int) j) ∧ Hid (wr = w.drewN n)) (fun vi _ => m - (intOf vi).toNat)
    case atStart => exact ⟨0, 0, rfl, Nat.zero_le _, fun j h => by omega, rfl⟩
    case round =>
      obtain ⟨k, n, rfl, hk, HE, HW⟩ := hrel
      by_cases hlt : k < m
      · obtain ⟨b, off, rfl, hc⟩ := HR.out.drewN n k hlt
        obtain ⟨b', off', rfl, hc'⟩ := HS.out.drewN n k hlt
        rw [← HW.out] at hc hc'
        obtain ⟨a, hae⟩ : ∃ a, a = dg (x : Int) k := ⟨_, rfl⟩
        obtain ⟨d, hde⟩ : ∃ d, d = dg (y : Int) k := ⟨_, rfl⟩
        rw [← hae] at hc
        rw [← hde] at hc'
        have HA := Lib.hid hae; have HD := Lib.hid hde; clear hae hde
        by_cases had : a = d
        · have hne : ((a : Int) == (d : Int)) = true := by simp; omega
          have HE2 : Hid (∀ j, j < k + 1 → dg (x : Int) j = dg (y : Int) j) := fun j hj => by
            by_cases h : j = k
            · subst h; rw [← HA.out, ← HD.out]; exact had
            · exact HE.out j (by omega)
          clear had
          go_wp2
          go_quiet (fail)
          go_wp2
          go_roundw
          case rel => exact ⟨k + 1, n + nq, by go_num, by omega, HE2, by unfold Hid; rw [HW.out]; exact World.drewN_drewN _ _ _⟩
          case measure => simp [intOf]; omega
        · have hne : ((a : Int) == (d : Int)) = false := by simp; omega
          have HF : Hid (decide (x = y) = false) := decide_eq_false (fun h => had (by rw [HA.out, HD.out, h]))
          clear had
          go_wp2
          go_quiet (fail)
          go_wp2
          go_ret
          exact ⟨ret_bool HF.out.symm, _, by rw [HW.out, World.drewN_drewN]⟩
      · obtain rfl : k = m := by omega
        have HT : Hid (decide (x = y) = true) := decide_eq_true (nat_eq_of_dg HLX.out HLY.out HE.out)
        go_wp2
        go_ret
        exact ⟨ret_bool HT.out.symm, n, HW.out⟩
  · have hne : (((nl x : Nat) : Int) == ((nl y : Nat) : Int)) = false := by simp; omega
    have HF : Hid (decide (x = y) = false) := decide_eq_false (fun h => hl (by rw [h]))
    clear hR hS hl
    go_enter Tryd.func46, Tryd.ntmps46
    go_wp2
    go_ret
    exact ⟨ret_bool HF.out.symm, 0, rfl⟩
theorem rsamed_on (va vb : Value) (x y : Nat) (w : World) (ha : Nv w va x) (hb : Nv w vb y) :
    Calls Tryd.prog 46 #[va, vb] w fun e w' => e = .returned (.bool (decide (x = y))) ∧ On w w' :=
  (rsamed_any va vb x y w ha hb).mono fun e w' ⟨h1, n, h2⟩ => ⟨h1, h2 ▸ (On.refl w).drewN n⟩

theorem box_x (w : World) (a b : Value) : (w.alloc (.cells #[a, b] 26)).cell? ⟨w.heap.size, 0, none⟩ = some a ∧ (w.alloc (.cells #[a, b] 26)).cell? ⟨w.heap.size, 1, none⟩ = some b := by
  refine ⟨?_, ?_⟩
  all_goals rw [World.cell?_alloc_at _ _ _ _ rfl]; rfl
/-- A fraction as it may come in: two lists of limbs. -/
def Gz (w : World) (v : Value) (m p n q : Nat) : Prop := ∃ vp vq, v = .agg #[vp, vq] ∧ Lz w vp m p ∧ Lz w vq n q
theorem Gz.on {w w' : World} {v : Value} {m p n q : Nat} (h : Gz w v m p n q) (k : On w w') : Gz w' v m p n q := by
  obtain ⟨vp, vq, h1, h2, h3⟩ := h
  exact ⟨vp, vq, h1, h2.on k, h3.on k⟩
theorem Gz.gv {w : World} {v : Value} {m p n q : Nat} (h : Gz w v m p n q) : Gv w v m p n q := by
  obtain ⟨vp, vq, h1, h2, h3⟩ := h
  exact ⟨vp, vq, h1, h2.1, h3.1⟩
set_option maxHeartbeats 4000000 in
theorem rvalidF_any (v : Value) (m p n q : Nat) (w : World) (h : Gz w v m p n q) (hp : p < 4294967296 ^ m) (hq : q < 4294967296 ^ n) :
    Calls Tryd.prog 83 #[v] w fun e w' => e = .returned (.bool (okF m p n q)) ∧ On w w' := by
  obtain ⟨vp, vq, rfl, hP, hQ⟩ := h
  obtain ⟨op, cp, rfl, -, -, -⟩ := id hP.1
  obtain ⟨oq, cq, rfl, -, -, -⟩ := id hQ.1
  have HX := Lib.hid hp; have HY := Lib.hid hq; clear hp hq
  have hO : On w (w.alloc (.cells #[.slice op m cp, .slice oq n cq] 26)) := (On.refl w).alloc _
  have HP := Lib.hid (hP.on hO); have HQ := Lib.hid (hQ.on hO); have HO := Lib.hid hO
  have HF2 := Lib.hid (box_x w (.slice op m cp) (.slice oq n cq))
  clear hP hQ hO
  obtain ⟨u, hu⟩ : ∃ u, u = w.alloc (.cells #[.slice op m cp, .slice oq n cq] 26) := ⟨_, rfl⟩
  have HU := Lib.hid hu
  rw [← hu] at HP HQ HO HF2
  clear hu
  have HA1 := Lib.hid (rvalid_lv (.slice op m cp) m p u HP.out.1 HX.out)
  have HA2 := Lib.hid (rvalid_lv (.slice oq n cq) n q u HQ.out.1 HY.out)
  cases hv1 : okB m p
  · have HF : Hid (okF m p n q = false) := by unfold Hid okF; rw [hv1]; rfl
    rw [HF.out]
    rw [hv1] at HA1
    clear hv1
    go_enter Tryd.func83, Tryd.ntmps83
    go_wp2_with (go_at_call 109; rw [← HU.out]; refine HA1.out.mono ?_; rintro e w' ⟨rfl, rfl⟩)
    go_ret
    exact ⟨rfl, HO.out⟩
  cases hv2 : okB n q
  · have HF : Hid (okF m p n q = false) := by unfold Hid okF; rw [hv1, hv2]; rfl
    rw [HF.out]
    rw [hv1] at HA1; rw [hv2] at HA2
    clear hv1 hv2
    obtain ⟨f1, f2⟩ := HF2.out
    go_enter Tryd.func83, Tryd.ntmps83
    go_wp2_with (go_at_call 109; (first | (rw [← HU.out]; refine HA1.out.mono ?_; rintro e w' ⟨rfl, rfl⟩) | (refine HA2.out.mono ?_; rintro e w' ⟨rfl, rfl⟩)))
    go_ret
    exact ⟨rfl, HO.out⟩
  · obtain ⟨⟨rfl, hpm⟩, rfl, hqm⟩ := oks_true (show (okB m p && okB n q) = true by rw [hv1, hv2]; rfl)
    rcases Nat.eq_zero_or_pos q with h0 | h0
    · subst h0
      have HF : Hid (okF (nl p) p (nl 0) 0 = false) := by unfold Hid okF; simp
      rw [HF.out]
      rw [hv1] at HA1; rw [hv2] at HA2
      clear hv1 hv2 hqm
      rw [nl_zero] at HQ HY HA2 HF2 HU ⊢
      obtain ⟨f1, f2⟩ := HF2.out
      go_enter Tryd.func83, Tryd.ntmps83
      go_wp2_with (go_at_call 109; (first | (rw [← HU.out]; refine HA1.out.mono ?_; rintro e w' ⟨rfl, rfl⟩) | (refine HA2.out.mono ?_; rintro e w' ⟨rfl, rfl⟩)))
      go_ret
      exact ⟨rfl, HO.out⟩
    · have hn0 := nl_pos h0
      have hz : decide (0 < ((nl q : Nat) : Int)) = true := by simp; omega
      have HF : Hid (okF (nl p) p (nl q) q = decide (Nat.gcd p q = 1)) := by unfold Hid okF; rw [hv1, hv2]; simp [h0]
      rw [HF.out]
      rw [hv1] at HA1; rw [hv2] at HA2
      clear hv1 hv2
      obtain ⟨f1, f2⟩ := HF2.out
      have HG1 := Lib.hid (rgcd_any _ _ p q u HP.out HQ.out (by omega) (by omega))
      generalize hnp : nl p = np at *
      generalize hnq : nl q = nq at *
      have HNP := Lib.hid hnp; have HNQ := Lib.hid hnq
      clear hnp hnq
      go_enter Tryd.func83, Tryd.ntmps83
      go_wp2_with (first
        | (go_at_call 109; (first | (rw [← HU.out]; refine HA1.out.mono ?_; rintro e w' ⟨rfl, rfl⟩) | (refine HA2.out.mono ?_; rintro e w' ⟨rfl, rfl⟩)))
        | (go_at_call 111; refine HG1.out.mono ?_; rintro e w2 ⟨⟨vg, rfl, hg⟩, hOn⟩; have HG := Lib.hid hg.1.1; have HO2 := Lib.hid hOn; clear hg hOn)
        | (go_at_call 46; refine (rsamed_on _ _ (Nat.gcd p q) 1 _ (HG.out.on ((On.refl _).alloc _)) (one_nv w2 _ 1 rfl (by decide) (by decide))).mono ?_; rintro e w3 ⟨rfl, hOn⟩; have HO3 := Lib.hid hOn; clear hOn))
      go_ret
      exact ⟨rfl, (HO.out.trans (HO2.out.alloc _)).trans HO3.out⟩
end Go.Proofs.YthgidehapcfciaaDoor.Rt

/- The document's own Order, Add, Mul and Show. Written by gendocfr.py. -/
namespace Go.Proofs.YthgidehapcfciaaDoor.Rt
set_option maxRecDepth 100000
--
open Go.RowKit
set_option linter.unusedVariables false

/-- A fraction of valid numbers that lie as the document's own functions want. -/
def Fu (w : World) (v : Value) (p q : Nat) : Prop := ∃ vp vq, v = .agg #[vp, vq] ∧ Nu w vp p ∧ Nu w vq q
theorem Fu.on {w w' : World} {v : Value} {p q : Nat} (h : Fu w v p q) (k : On w w') : Fu w' v p q := by
  obtain ⟨vp, vq, h1, h2, h3⟩ := h
  exact ⟨vp, vq, h1, h2.on k, h3.on k⟩
theorem Fu.gz {w : World} {v : Value} {p q : Nat} (h : Fu w v p q) : Gz w v (nl p) p (nl q) q := h
theorem Gz.fu {w : World} {v : Value} {m p n q : Nat} (h : Gz w v m p n q) (hk : okF m p n q = true) : Fu w v p q := by
  obtain ⟨e1, e2, -⟩ := okF_true hk
  subst e1; subst e2; exact h
theorem Fu.fv {w : World} {v : Value} {p q : Nat} (h : Fu w v p q) : Fv w v p q := by
  obtain ⟨vp, vq, h1, h2, h3⟩ := h
  exact ⟨vp, vq, h1, h2.1, h3.1⟩
set_option maxHeartbeats 4000000 in
theorem rOrder_yes (vx vy : Value) (p q r s : Nat) (w : World) (hx : Fu w vx p q) (hy : Fu w vy r s) (kx : okF (nl p) p (nl q) q = true) (ky : okF (nl r) r (nl s) s = true) :
    Calls Tryd.prog 87 #[vx, vy] w fun e w' => e = .returned (.int .i64 (cmpZ (p * s) (r * q))) ∧ On w w' := by
  have HX := Lib.hid hx; have HY := Lib.hid hy
  obtain ⟨vxp, vxq, rfl, ⟨hxp, -⟩, ⟨hxq, -⟩⟩ := hx
  obtain ⟨vyp, vyq, rfl, ⟨hyp, -⟩, ⟨hyq, -⟩⟩ := hy
  obtain ⟨-, -, hp64, hq64, hq0, -⟩ := okF_true kx
  obtain ⟨-, -, hr64, hs64, hs0, -⟩ := okF_true ky
  have HXP := Lib.hid hxp; have HXQ := Lib.hid hxq; have HYP := Lib.hid hyp; have HYQ := Lib.hid hyq
  obtain ⟨o1, c1, rfl, -, -, -⟩ := hxp
  obtain ⟨o2, c2, rfl, -, -, -⟩ := hxq
  obtain ⟨o3, c3, rfl, -, -, -⟩ := hyp
  obtain ⟨o4, c4, rfl, -, -, -⟩ := hyq
  have HKX := Lib.hid kx; have HKY := Lib.hid ky
  clear kx ky
  have HF4 := Lib.hid (box_two w (.slice o1 (nl p) c1) (.slice o2 (nl q) c2) (.slice o3 (nl r) c3) (.slice o4 (nl s) c4))
  have HO3 : Hid (On w ((w.alloc (.cells #[.slice o1 (nl p) c1, .slice o2 (nl q) c2] 26)).alloc (.cells #[.slice o3 (nl r) c3, .slice o4 (nl s) c4] 26))) := ((On.refl w).alloc _).alloc _
  obtain ⟨u, hu⟩ : ∃ u, u = (w.alloc (.cells #[.slice o1 (nl p) c1, .slice o2 (nl q) c2] 26)).alloc (.cells #[.slice o3 (nl r) c3, .slice o4 (nl s) c4] 26) := ⟨_, rfl⟩
  have HU := Lib.hid hu
  rw [← hu] at HF4 HO3
  clear hu
  go_enter Tryd.func87, Tryd.ntmps87
  go_hidden (go_wp2_with (first
    | (go_at_call 83; rw [← HU.out]; ((with_reducible refine (rvalidF_any (.agg #[.slice o1 (nl p) c1, .slice o2 (nl q) c2]) (nl p) p (nl q) q _ (HX.out.gz.on HO3.out) (lt_nl p) (lt_nl q)).mono ?_)); rw [HKX.out]; rintro e w2 ⟨rfl, hO⟩; have HO2 := Lib.hid hO; obtain ⟨f1, f2, f3, f4⟩ := four_on HF4.out hO; clear hO)
    | (go_at_call 83; ((with_reducible refine (rvalidF_any (.agg #[.slice o3 (nl r) c3, .slice o4 (nl s) c4]) (nl r) r (nl s) s w2 (HY.out.gz.on (HO3.out.trans HO2.out)) (lt_nl r) (lt_nl s)).mono ?_)); rw [HKY.out]; rintro e w4 ⟨rfl, hO⟩; have HO4 := Lib.hid hO; clear hO)))
  have hS4 := four_on ⟨f1, f2, f3, f4⟩ HO4.out
  clear f1 f2 f3 f4
  have HOU := Lib.hid ((HO3.out.trans HO2.out).trans HO4.out)
  have HXP4 := Lib.hid (HXP.out.on HOU.out)
  have HXQ4 := Lib.hid (HXQ.out.on HOU.out)
  have HYP4 := Lib.hid (HYP.out.on HOU.out)
  have HYQ4 := Lib.hid (HYQ.out.on HOU.out)
  clear HO2 HO4 HF4 HX HY
  have h0 : On w4 w4.drew := (On.refl w4).drew
  go_region_held3 (fun w' => w'.cell? ⟨w.heap.size, 0, none⟩ = some (.slice o1 (nl p) c1) ∧ w'.cell? ⟨w.heap.size, 1, none⟩ = some (.slice o2 (nl q) c2) ∧ w'.cell? ⟨w.heap.size + 1, 0, none⟩ = some (.slice o3 (nl r) c3) ∧ w'.cell? ⟨w.heap.size + 1, 1, none⟩ = some (.slice o4 (nl s) c4)) (first | assumption | exact four_on (by assumption) (by assumption)) (first
    | (go_at_call 84; ((with_reducible refine (rproduct_any (.slice o1 (nl p) c1) (.slice o4 (nl s) c4) p s _ (HXP4.out.on (by first | exact On.refl _ | assumption | (refine On.trans (by assumption) ?_; first | assumption | (refine On.trans (by assumption) ?_; first | assumption | (refine On.trans (by assumption) ?_; first | assumption | (refine On.trans (by assumption) ?_; first | assumption | (refine On.trans (by assumption) ?_; assumption))))))) (HYQ4.out.on (by first | exact On.refl _ | assumption | (refine On.trans (by assumption) ?_; first | assumption | (refine On.trans (by assumption) ?_; first | assumption | (refine On.trans (by assumption) ?_; first | assumption | (refine On.trans (by assumption) ?_; first | assumption | (refine On.trans (by assumption) ?_; assumption))))))) (by omega) (by omega)).mono ?_)); rintro e wa ⟨⟨va, rfl, hva⟩, hOa⟩)
    | (go_at_call 84; ((with_reducible refine (rproduct_any (.slice o3 (nl r) c3) (.slice o2 (nl q) c2) r q _ (HYP4.out.on (by first | exact On.refl _ | assumption | (refine On.trans (by assumption) ?_; first | assumption | (refine On.trans (by assumption) ?_; first | assumption | (refine On.trans (by assumption) ?_; first | assumption | (refine On.trans (by assumption) ?_; first | assumption | (refine On.trans (by assumption) ?_; assumption))))))) (HXQ4.out.on (by first | exact On.refl _ | assumption | (refine On.trans (by assumption) ?_; first | assumption | (refine On.trans (by assumption) ?_; first | assumption | (refine On.trans (by assumption) ?_; first | assumption | (refine On.trans (by assumption) ?_; first | assumption | (refine On.trans (by assumption) ?_; assumption))))))) (by omega) (by omega)).mono ?_)); rintro e wb ⟨⟨vb, rfl, hvb⟩, hOb⟩)
    | (go_at_call 114; refine (rorder_any va vb (p * s) (r * q) _ (Nv.on hva.1 (by first | exact On.refl _ | assumption | (refine On.trans (by assumption) ?_; first | assumption | (refine On.trans (by assumption) ?_; first | assumption | (refine On.trans (by assumption) ?_; first | assumption | (refine On.trans (by assumption) ?_; first | assumption | (refine On.trans (by assumption) ?_; assumption))))))) (Nv.on hvb.1 (by first | exact On.refl _ | assumption | (refine On.trans (by assumption) ?_; first | assumption | (refine On.trans (by assumption) ?_; first | assumption | (refine On.trans (by assumption) ?_; first | assumption | (refine On.trans (by assumption) ?_; first | assumption | (refine On.trans (by assumption) ?_; assumption)))))))).mono ?_; rintro e wz ⟨rfl, nz, hz⟩; have hOz : On _ wz := hz ▸ (On.refl _).drewN nz; have HFIN := Lib.hid (HOU.out.trans (On.trans (by first | exact On.refl _ | assumption | (refine On.trans (by assumption) ?_; first | assumption | (refine On.trans (by assumption) ?_; first | assumption | (refine On.trans (by assumption) ?_; first | assumption | (refine On.trans (by assumption) ?_; first | assumption | (refine On.trans (by assumption) ?_; assumption)))))) hOz)); clear hz))
  all_goals
    go_wp2
    go_ret
    exact ⟨rfl, HFIN.out⟩
set_option maxHeartbeats 4000000 in
theorem rOrder_bad (vx vy : Value) (m1 p m2 q m3 r m4 s : Nat) (w : World) (hx : Gz w vx m1 p m2 q) (hy : Gz w vy m3 r m4 s) (l1 : p < 4294967296 ^ m1) (l2 : q < 4294967296 ^ m2) (l3 : r < 4294967296 ^ m3) (l4 : s < 4294967296 ^ m4) (hk : (okF m1 p m2 q && okF m3 r m4 s) = false) :
    Calls Tryd.prog 87 #[vx, vy] w fun e w' => e = .returned (.int .i64 0) ∧ On w w' := by
  have HX := Lib.hid hx; have HY := Lib.hid hy
  obtain ⟨vxp, vxq, rfl, hxp, hxq⟩ := hx
  obtain ⟨vyp, vyq, rfl, hyp, hyq⟩ := hy
  obtain ⟨o1, c1, rfl, -, -, -⟩ := hxp.1
  obtain ⟨o2, c2, rfl, -, -, -⟩ := hxq.1
  obtain ⟨o3, c3, rfl, -, -, -⟩ := hyp.1
  obtain ⟨o4, c4, rfl, -, -, -⟩ := hyq.1
  have L1 := Lib.hid l1; have L2 := Lib.hid l2; have L3 := Lib.hid l3; have L4 := Lib.hid l4
  clear l1 l2 l3 l4
  have HF4 := Lib.hid (box_two w (.slice o1 m1 c1) (.slice o2 m2 c2) (.slice o3 m3 c3) (.slice o4 m4 c4))
  have HO3 : Hid (On w ((w.alloc (.cells #[.slice o1 m1 c1, .slice o2 m2 c2] 26)).alloc (.cells #[.slice o3 m3 c3, .slice o4 m4 c4] 26))) := ((On.refl w).alloc _).alloc _
  obtain ⟨u, hu⟩ : ∃ u, u = (w.alloc (.cells #[.slice o1 m1 c1, .slice o2 m2 c2] 26)).alloc (.cells #[.slice o3 m3 c3, .slice o4 m4 c4] 26) := ⟨_, rfl⟩
  have HU := Lib.hid hu
  rw [← hu] at HF4 HO3
  clear hu
  cases hkx : okF m1 p m2 q
  · have HKX := Lib.hid hkx; clear hkx hk
    go_enter Tryd.func87, Tryd.ntmps87
    go_wp2_with (go_at_call 83; rw [← HU.out]; ((with_reducible refine (rvalidF_any (.agg #[.slice o1 m1 c1, .slice o2 m2 c2]) m1 p m2 q _ (HX.out.on HO3.out) L1.out L2.out).mono ?_)); rw [HKX.out]; rintro e w2 ⟨rfl, hO⟩; have HO5 := Lib.hid hO; clear hO)
    go_ret
    exact ⟨rfl, HO3.out.trans HO5.out⟩
  · have HKX := Lib.hid hkx
    have HKY : Hid (okF m3 r m4 s = false) := by rw [hkx] at hk; exact hk
    clear hkx hk
    go_enter Tryd.func87, Tryd.ntmps87
    go_wp2_with (first
      | (go_at_call 83; rw [← HU.out]; ((with_reducible refine (rvalidF_any (.agg #[.slice o1 m1 c1, .slice o2 m2 c2]) m1 p m2 q _ (HX.out.on HO3.out) L1.out L2.out).mono ?_)); rw [HKX.out]; rintro e w2 ⟨rfl, hO⟩; have HO2 := Lib.hid hO; obtain ⟨f1, f2, f3, f4⟩ := four_on HF4.out hO; clear hO)
      | (go_at_call 83; ((with_reducible refine (rvalidF_any (.agg #[.slice o3 m3 c3, .slice o4 m4 c4]) m3 r m4 s w2 (HY.out.on (HO3.out.trans HO2.out)) L3.out L4.out).mono ?_)); rw [HKY.out]; rintro e w4 ⟨rfl, hO⟩; have HO5 := Lib.hid (HO2.out.trans hO); clear hO f1 f2 f3 f4))
    go_ret
    exact ⟨rfl, HO3.out.trans HO5.out⟩
set_option maxHeartbeats 4000000 in
theorem rAdd_yes (vx vy : Value) (p q r s : Nat) (w : World) (hx : Fu w vx p q) (hy : Fu w vy r s) (kx : okF (nl p) p (nl q) q = true) (ky : okF (nl r) r (nl s) s = true) :
    AnsF Tryd.prog 44 #[vx, vy] w (fitP ((p * s + r * q) / Nat.gcd (p * s + r * q) (q * s)) (q * s / Nat.gcd (p * s + r * q) (q * s))) (fitQ ((p * s + r * q) / Nat.gcd (p * s + r * q) (q * s)) (q * s / Nat.gcd (p * s + r * q) (q * s))) (fitC ((p * s + r * q) / Nat.gcd (p * s + r * q) (q * s)) (q * s / Nat.gcd (p * s + r * q) (q * s))) := by
  have HX := Lib.hid hx; have HY := Lib.hid hy
  obtain ⟨vxp, vxq, rfl, ⟨hxp, -⟩, ⟨hxq, -⟩⟩ := hx
  obtain ⟨vyp, vyq, rfl, ⟨hyp, -⟩, ⟨hyq, -⟩⟩ := hy
  obtain ⟨-, -, hp64, hq64, hq0, -⟩ := okF_true kx
  obtain ⟨-, -, hr64, hs64, hs0, -⟩ := okF_true ky
  have HXP := Lib.hid hxp; have HXQ := Lib.hid hxq; have HYP := Lib.hid hyp; have HYQ := Lib.hid hyq
  obtain ⟨o1, c1, rfl, -, -, -⟩ := hxp
  obtain ⟨o2, c2, rfl, -, -, -⟩ := hxq
  obtain ⟨o3, c3, rfl, -, -, -⟩ := hyp
  obtain ⟨o4, c4, rfl, -, -, -⟩ := hyq
  have HKX := Lib.hid kx; have HKY := Lib.hid ky
  clear kx ky
  have HF4 := Lib.hid (box_four w (.slice o1 (nl p) c1) (.slice o2 (nl q) c2) (.slice o3 (nl r) c3) (.slice o4 (nl s) c4) (.cells #[.slice none 0 0, .slice none 0 0] 26))
  have HO3 : Hid (On w ((w.alloc (.cells #[.slice o1 (nl p) c1, .slice o2 (nl q) c2] 26)).alloc (.cells #[.slice o3 (nl r) c3, .slice o4 (nl s) c4] 26))) := ((On.refl w).alloc _).alloc _
  have hsz : ((w.alloc (.cells #[.slice o1 (nl p) c1, .slice o2 (nl q) c2] 26)).alloc (.cells #[.slice o3 (nl r) c3, .slice o4 (nl s) c4] 26)).heap.size = w.heap.size + 1 + 1 := by simp
  obtain ⟨u, hu⟩ : ∃ u, u = (w.alloc (.cells #[.slice o1 (nl p) c1, .slice o2 (nl q) c2] 26)).alloc (.cells #[.slice o3 (nl r) c3, .slice o4 (nl s) c4] 26) := ⟨_, rfl⟩
  have HU := Lib.hid hu
  rw [← hu] at HF4 HO3 hsz
  have HSZ := Lib.hid hsz
  clear hu hsz
  have hc1 : nl (p * s) ≤ 128 := Nat.le_trans (nl_mul_le p s) (by omega)
  have hc2 : nl (r * q) ≤ 128 := Nat.le_trans (nl_mul_le r q) (by omega)
  have hb1 : nl (p * s + r * q) ≤ 1000 := Nat.le_trans (nl_add_le _ _) (by omega)
  have hb2 : nl (q * s) ≤ 1000 := Nat.le_trans (nl_mul_le q s) (by omega)
  have hqs0 : 0 < q * s := Nat.mul_pos hq0 hs0
  go_enter Tryd.func44, Tryd.ntmps44
  go_hidden (go_wp2_with (first
    | (go_at_call 83; rw [← HU.out]; ((with_reducible refine (rvalidF_any (.agg #[.slice o1 (nl p) c1, .slice o2 (nl q) c2]) (nl p) p (nl q) q _ (HX.out.gz.on (HO3.out.alloc _)) (lt_nl p) (lt_nl q)).mono ?_)); rw [HKX.out]; rintro e w2 ⟨rfl, hO⟩; have HO2 := Lib.hid hO; obtain ⟨f1, f2, f3, f4⟩ := four_on HF4.out hO; clear hO)
    | (go_at_call 83; ((with_reducible refine (rvalidF_any (.agg #[.slice o3 (nl r) c3, .slice o4 (nl s) c4]) (nl r) r (nl s) s w2 (HY.out.gz.on ((HO3.out.alloc _).trans HO2.out)) (lt_nl r) (lt_nl s)).mono ?_)); rw [HKY.out]; rintro e w4 ⟨rfl, hO⟩; have HO4 := Lib.hid hO; clear hO)))
  have hS4 := four_on ⟨f1, f2, f3, f4⟩ HO4.out
  clear f1 f2 f3 f4
  have HXP4 := Lib.hid (HXP.out.on (((HO3.out.alloc _).trans HO2.out).trans HO4.out))
  have HXQ4 := Lib.hid (HXQ.out.on (((HO3.out.alloc _).trans HO2.out).trans HO4.out))
  have HYP4 := Lib.hid (HYP.out.on (((HO3.out.alloc _).trans HO2.out).trans HO4.out))
  have HYQ4 := Lib.hid (HYQ.out.on (((HO3.out.alloc _).trans HO2.out).trans HO4.out))
  have HOU := Lib.hid (HO2.out.trans HO4.out)
  clear HO2 HO4 HF4 HX HY
  have h0 : On w4 w4.drew := (On.refl w4).drew
  go_region_held3 (fun w' => w'.cell? ⟨w.heap.size, 0, none⟩ = some (.slice o1 (nl p) c1) ∧ w'.cell? ⟨w.heap.size, 1, none⟩ = some (.slice o2 (nl q) c2) ∧ w'.cell? ⟨w.heap.size + 1, 0, none⟩ = some (.slice o3 (nl r) c3) ∧ w'.cell? ⟨w.heap.size + 1, 1, none⟩ = some (.slice o4 (nl s) c4)) (first | assumption | exact four_on (by assumption) (by assumption) | exact four_res (by assumption)) (first
    | (go_at_call 84; ((with_reducible refine (rproduct_any (.slice o1 (nl p) c1) (.slice o4 (nl s) c4) p s _ (HXP4.out.on (by first | exact On.refl _ | assumption | (refine On.trans (by assumption) ?_; first | assumption | (refine On.trans (by assumption) ?_; first | assumption | (refine On.trans (by assumption) ?_; first | assumption | (refine On.trans (by assumption) ?_; first | assumption | (refine On.trans (by assumption) ?_; assumption))))))) (HYQ4.out.on (by first | exact On.refl _ | assumption | (refine On.trans (by assumption) ?_; first | assumption | (refine On.trans (by assumption) ?_; first | assumption | (refine On.trans (by assumption) ?_; first | assumption | (refine On.trans (by assumption) ?_; first | assumption | (refine On.trans (by assumption) ?_; assumption))))))) (by omega) (by omega)).mono ?_)); rintro e wa ⟨⟨va, rfl, hva⟩, hOa⟩)
    | (go_at_call 84; ((with_reducible refine (rproduct_any (.slice o3 (nl r) c3) (.slice o2 (nl q) c2) r q _ (HYP4.out.on (by first | exact On.refl _ | assumption | (refine On.trans (by assumption) ?_; first | assumption | (refine On.trans (by assumption) ?_; first | assumption | (refine On.trans (by assumption) ?_; first | assumption | (refine On.trans (by assumption) ?_; first | assumption | (refine On.trans (by assumption) ?_; assumption))))))) (HXQ4.out.on (by first | exact On.refl _ | assumption | (refine On.trans (by assumption) ?_; first | assumption | (refine On.trans (by assumption) ?_; first | assumption | (refine On.trans (by assumption) ?_; first | assumption | (refine On.trans (by assumption) ?_; first | assumption | (refine On.trans (by assumption) ?_; assumption))))))) (by omega) (by omega)).mono ?_)); rintro e wb ⟨⟨vb, rfl, hvb⟩, hOb⟩)
    | (go_at_call 84; ((with_reducible refine (rproduct_any (.slice o2 (nl q) c2) (.slice o4 (nl s) c4) q s _ (HXQ4.out.on (by first | exact On.refl _ | assumption | (refine On.trans (by assumption) ?_; first | assumption | (refine On.trans (by assumption) ?_; first | assumption | (refine On.trans (by assumption) ?_; first | assumption | (refine On.trans (by assumption) ?_; first | assumption | (refine On.trans (by assumption) ?_; assumption))))))) (HYQ4.out.on (by first | exact On.refl _ | assumption | (refine On.trans (by assumption) ?_; first | assumption | (refine On.trans (by assumption) ?_; first | assumption | (refine On.trans (by assumption) ?_; first | assumption | (refine On.trans (by assumption) ?_; first | assumption | (refine On.trans (by assumption) ?_; assumption))))))) (by omega) (by omega)).mono ?_)); rintro e wd ⟨⟨vd, rfl, hvd⟩, hOd⟩)
    | (go_at_call 86; refine (rsum_any va vb (p * s) (r * q) _ (Nv.on hva.1 (by first | exact On.refl _ | assumption | (refine On.trans (by assumption) ?_; first | assumption | (refine On.trans (by assumption) ?_; first | assumption | (refine On.trans (by assumption) ?_; first | assumption | (refine On.trans (by assumption) ?_; first | assumption | (refine On.trans (by assumption) ?_; assumption))))))) (Nv.on hvb.1 (by first | exact On.refl _ | assumption | (refine On.trans (by assumption) ?_; first | assumption | (refine On.trans (by assumption) ?_; first | assumption | (refine On.trans (by assumption) ?_; first | assumption | (refine On.trans (by assumption) ?_; first | assumption | (refine On.trans (by assumption) ?_; assumption))))))) (by omega) (by omega)).mono ?_; rintro e ws ⟨⟨vs, rfl, hvs⟩, hOs⟩)
    | (go_at_call 85; refine (rlow_any vs vd (p * s + r * q) (q * s) _ (Nu.on hvs.1 (by first | exact On.refl _ | assumption | (refine On.trans (by assumption) ?_; first | assumption | (refine On.trans (by assumption) ?_; first | assumption | (refine On.trans (by assumption) ?_; first | assumption | (refine On.trans (by assumption) ?_; first | assumption | (refine On.trans (by assumption) ?_; assumption))))))) (Nu.on hvd (by first | exact On.refl _ | assumption | (refine On.trans (by assumption) ?_; first | assumption | (refine On.trans (by assumption) ?_; first | assumption | (refine On.trans (by assumption) ?_; first | assumption | (refine On.trans (by assumption) ?_; first | assumption | (refine On.trans (by assumption) ?_; assumption))))))) hb1 hb2 hqs0).mono ?_; rintro e wz ⟨⟨v, rfl, ⟨vp, vz, rfl, hp, hz⟩⟩, hOz⟩; have HP := Lib.hid hp; have HZ := Lib.hid hz; have HO5 := Lib.hid (HOU.out.trans (On.trans (by first | exact On.refl _ | assumption | (refine On.trans (by assumption) ?_; first | assumption | (refine On.trans (by assumption) ?_; first | assumption | (refine On.trans (by assumption) ?_; first | assumption | (refine On.trans (by assumption) ?_; first | assumption | (refine On.trans (by assumption) ?_; assumption)))))) hOz)); obtain ⟨op, cp, rfl, -, -, -⟩ := hp; obtain ⟨oz, cz, rfl, -, -, -⟩ := hz; have hk := res_facts HO5.out (.slice op (nl (fitP ((p * s + r * q) / Nat.gcd (p * s + r * q) (q * s)) ((q * s) / Nat.gcd (p * s + r * q) (q * s)))) cp) (.slice oz (nl (fitQ ((p * s + r * q) / Nat.gcd (p * s + r * q) (q * s)) ((q * s) / Nat.gcd (p * s + r * q) (q * s)))) cz); rw [HSZ.out] at hk; obtain ⟨k1, k2, k3, k4, k5, k6, k7⟩ := hk))
  all_goals
    go_wp2
    (try simp only [Exit.inBlock, Exit.then])
    refine bodyPost_ret (by simp [results, Tryd.results44, go_sem, k6, k7]; try rfl) rfl ?_
    have hE := res_end HO5.out HP.out HZ.out
    rw [HSZ.out] at hE
    exact ⟨⟨_, rfl, hE.1⟩, HO3.out.trans hE.2⟩

set_option maxHeartbeats 4000000 in
theorem rAdd_bad (vx vy : Value) (m1 p m2 q m3 r m4 s : Nat) (w : World) (hx : Gz w vx m1 p m2 q) (hy : Gz w vy m3 r m4 s) (l1 : p < 4294967296 ^ m1) (l2 : q < 4294967296 ^ m2) (l3 : r < 4294967296 ^ m3) (l4 : s < 4294967296 ^ m4) (hk : (okF m1 p m2 q && okF m3 r m4 s) = false) :
    AnsF Tryd.prog 44 #[vx, vy] w 0 0 1 := by
  have HX := Lib.hid hx; have HY := Lib.hid hy
  obtain ⟨vxp, vxq, rfl, hxp, hxq⟩ := hx
  obtain ⟨vyp, vyq, rfl, hyp, hyq⟩ := hy
  obtain ⟨o1, c1, rfl, -, -, -⟩ := hxp.1
  obtain ⟨o2, c2, rfl, -, -, -⟩ := hxq.1
  obtain ⟨o3, c3, rfl, -, -, -⟩ := hyp.1
  obtain ⟨o4, c4, rfl, -, -, -⟩ := hyq.1
  have L1 := Lib.hid l1; have L2 := Lib.hid l2; have L3 := Lib.hid l3; have L4 := Lib.hid l4
  clear l1 l2 l3 l4
  have HF4 := Lib.hid (box_four w (.slice o1 m1 c1) (.slice o2 m2 c2) (.slice o3 m3 c3) (.slice o4 m4 c4) (.cells #[.slice none 0 0, .slice none 0 0] 26))
  have HO3 : Hid (On w ((w.alloc (.cells #[.slice o1 m1 c1, .slice o2 m2 c2] 26)).alloc (.cells #[.slice o3 m3 c3, .slice o4 m4 c4] 26))) := ((On.refl w).alloc _).alloc _
  have hsz : ((w.alloc (.cells #[.slice o1 m1 c1, .slice o2 m2 c2] 26)).alloc (.cells #[.slice o3 m3 c3, .slice o4 m4 c4] 26)).heap.size = w.heap.size + 1 + 1 := by simp
  obtain ⟨u, hu⟩ : ∃ u, u = (w.alloc (.cells #[.slice o1 m1 c1, .slice o2 m2 c2] 26)).alloc (.cells #[.slice o3 m3 c3, .slice o4 m4 c4] 26) := ⟨_, rfl⟩
  have HU := Lib.hid hu
  rw [← hu] at HF4 HO3 hsz
  have HSZ := Lib.hid hsz
  clear hu hsz
  cases hkx : okF m1 p m2 q
  · have HKX := Lib.hid hkx; clear hkx hk
    go_enter Tryd.func44, Tryd.ntmps44
    go_wp2_with (go_at_call 83; rw [← HU.out]; ((with_reducible refine (rvalidF_any (.agg #[.slice o1 m1 c1, .slice o2 m2 c2]) m1 p m2 q _ (HX.out.on (HO3.out.alloc _)) L1.out L2.out).mono ?_)); rw [HKX.out]; rintro e w2 ⟨rfl, hO⟩; have HO5 := Lib.hid hO; have hk := res_facts hO (.slice none 0 0) (.slice none 0 0); rw [HSZ.out] at hk; obtain ⟨k1, k2, k3, k4, k5, k6, k7⟩ := hk; clear hO)
    (try simp only [Exit.inBlock, Exit.then])
    refine bodyPost_ret (by simp [results, Tryd.results44, go_sem, k6, k7]; try rfl) rfl ?_
    have hE := res_end HO5.out (Nv.nil _) (Nv.nil _)
    rw [HSZ.out] at hE
    exact ⟨⟨_, rfl, hE.1⟩, HO3.out.trans hE.2⟩
  · have HKX := Lib.hid hkx
    have HKY : Hid (okF m3 r m4 s = false) := by rw [hkx] at hk; exact hk
    clear hkx hk
    go_enter Tryd.func44, Tryd.ntmps44
    go_wp2_with (first
      | (go_at_call 83; rw [← HU.out]; ((with_reducible refine (rvalidF_any (.agg #[.slice o1 m1 c1, .slice o2 m2 c2]) m1 p m2 q _ (HX.out.on (HO3.out.alloc _)) L1.out L2.out).mono ?_)); rw [HKX.out]; rintro e w2 ⟨rfl, hO⟩; have HO2 := Lib.hid hO; obtain ⟨f1, f2, f3, f4⟩ := four_on HF4.out hO; clear hO)
      | (go_at_call 83; ((with_reducible refine (rvalidF_any (.agg #[.slice o3 m3 c3, .slice o4 m4 c4]) m3 r m4 s w2 (HY.out.on ((HO3.out.alloc _).trans HO2.out)) L3.out L4.out).mono ?_)); rw [HKY.out]; rintro e w4 ⟨rfl, hO⟩; have HO5 := Lib.hid (HO2.out.trans hO); have hk := res_facts HO5.out (.slice none 0 0) (.slice none 0 0); rw [HSZ.out] at hk; obtain ⟨k1, k2, k3, k4, k5, k6, k7⟩ := hk; clear hO f1 f2 f3 f4))
    (try simp only [Exit.inBlock, Exit.then])
    refine bodyPost_ret (by simp [results, Tryd.results44, go_sem, k6, k7]; try rfl) rfl ?_
    have hE := res_end HO5.out (Nv.nil _) (Nv.nil _)
    rw [HSZ.out] at hE
    exact ⟨⟨_, rfl, hE.1⟩, HO3.out.trans hE.2⟩

end Go.Proofs.YthgidehapcfciaaDoor.Rt

/- Show of what is no fraction; the pairs: what the program and the document's own functions answer is the same. -/
namespace Go.Proofs.YthgidehapcfciaaDoor.Rt
set_option maxRecDepth 100000
--
open Go.RowKit
set_option linter.unusedVariables false

set_option maxHeartbeats 1000000 in
theorem Show_bad (vx : Value) (m1 p m2 q : Nat) (w : World) (hx : Gv w vx m1 p m2 q) (l1 : p < 4294967296 ^ m1) (l2 : q < 4294967296 ^ m2) (hk : okF m1 p m2 q = false) :
    Calls Tryd.prog 88 #[vx] w fun e w' => e = .returned (str []) ∧ On w w' := by
  have HX := Lib.hid hx
  obtain ⟨vxp, vxq, rfl, hxp, hxq⟩ := hx
  obtain ⟨o1, c1, rfl, -, -, -⟩ := hxp
  obtain ⟨o2, c2, rfl, -, -, -⟩ := hxq
  have L1 := Lib.hid l1; have L2 := Lib.hid l2
  have HKX := Lib.hid hk
  clear l1 l2 hk
  have HO3 : Hid (On w (w.alloc (.cells #[.slice o1 m1 c1, .slice o2 m2 c2] 26))) := (On.refl w).alloc _
  obtain ⟨u, hu⟩ : ∃ u, u = w.alloc (.cells #[.slice o1 m1 c1, .slice o2 m2 c2] 26) := ⟨_, rfl⟩
  have HU := Lib.hid hu
  rw [← hu] at HO3
  clear hu
  go_enter Tryd.func88, Tryd.ntmps88
  go_wp2_with (go_at_call 69; rw [← HU.out]; ((with_reducible refine (valid_any (.agg #[.slice o1 m1 c1, .slice o2 m2 c2]) m1 p m2 q _ (HX.out.on HO3.out) L1.out L2.out).mono ?_)); rw [HKX.out]; rintro e w2 ⟨rfl, hO⟩; have HO5 := Lib.hid hO; clear hO)
  go_ret
  exact ⟨rfl, HO3.out.trans HO5.out⟩
section
variable {m p n q m' r n' s : Nat} (l1 : p < 4294967296 ^ m) (l2 : q < 4294967296 ^ n) (l3 : r < 4294967296 ^ m') (l4 : s < 4294967296 ^ n')
include l1 l2
theorem fvalid_pair : ∃ b, (∀ v w, Gz w v m p n q → AnsE Tryd.prog 69 #[v] w (.bool b)) ∧ ∀ v w, Gz w v m p n q → AnsE Tryd.prog 83 #[v] w (.bool b) :=
  ⟨okF m p n q, fun v w h => valid_any v m p n q w h.gv l1 l2, fun v w h => rvalidF_any v m p n q w h l1 l2⟩
include l3 l4
theorem forder_pair : ∃ z : Int, (∀ vx vy w, Gz w vx m p n q → Gz w vy m' r n' s → AnsE Tryd.prog 68 #[vx, vy] w (.int .i64 z)) ∧ ∀ vx vy w, Gz w vx m p n q → Gz w vy m' r n' s → AnsE Tryd.prog 87 #[vx, vy] w (.int .i64 z) := by
  cases hk : (okF m p n q && okF m' r n' s)
  · exact ⟨0, fun vx vy w h h' => Order_bad vx vy m p n q m' r n' s w h.gv h'.gv l1 l2 l3 l4 hk, fun vx vy w h h' => rOrder_bad vx vy m p n q m' r n' s w h h' l1 l2 l3 l4 hk⟩
  · rw [Bool.and_eq_true] at hk
    obtain ⟨e1, e2, -⟩ := okF_true hk.1
    obtain ⟨e3, e4, -⟩ := okF_true hk.2
    subst e1; subst e2; subst e3; subst e4
    exact ⟨_, fun vx vy w h h' => Order_yes vx vy p q r s w (Fu.fv h) (Fu.fv h') hk.1 hk.2, fun vx vy w h h' => rOrder_yes vx vy p q r s w h h' hk.1 hk.2⟩
theorem fadd_pair : ∃ P Q c, (∀ vx vy w, Gz w vx m p n q → Gz w vy m' r n' s → AnsF Tryd.prog 37 #[vx, vy] w P Q c) ∧ ∀ vx vy w, Gz w vx m p n q → Gz w vy m' r n' s → AnsF Tryd.prog 44 #[vx, vy] w P Q c := by
  cases hk : (okF m p n q && okF m' r n' s)
  · exact ⟨0, 0, 1, fun vx vy w h h' => (Add_bad vx vy m p n q m' r n' s w h.gv h'.gv l1 l2 l3 l4 hk).mono fun e w' ⟨v, h1, h2, h3⟩ => ⟨⟨v, h1, h2⟩, h3⟩, fun vx vy w h h' => rAdd_bad vx vy m p n q m' r n' s w h h' l1 l2 l3 l4 hk⟩
  · rw [Bool.and_eq_true] at hk
    obtain ⟨e1, e2, -⟩ := okF_true hk.1
    obtain ⟨e3, e4, -⟩ := okF_true hk.2
    subst e1; subst e2; subst e3; subst e4
    exact ⟨_, _, _, fun vx vy w h h' => (Add_yes vx vy p q r s w (Fu.fv h) (Fu.fv h') hk.1 hk.2).mono fun e w' ⟨v, h1, h2, h3⟩ => ⟨⟨v, h1, h2⟩, h3⟩, fun vx vy w h h' => rAdd_yes vx vy p q r s w h h' hk.1 hk.2⟩
omit l1 l2 l3 l4 in
theorem fnew_pair (l1 : p < 4294967296 ^ m) (l2 : q < 4294967296 ^ n) : ∃ P Q c, (∀ va vb w, Lz w va m p → Lz w vb n q → AnsF Tryd.prog 75 #[va, vb] w P Q c) ∧ ∀ va vb w, Lz w va m p → Lz w vb n q → AnsF Tryd.prog 81 #[va, vb] w P Q c := by
  cases hk : (okB m p && okB n q)
  · exact ⟨0, 0, 1, fun va vb w h h' => (New_bad va vb m p n q w h.1 l1 h'.1 l2 hk).mono fun e w' ⟨v, h1, h2, h3⟩ => ⟨⟨v, h1, h2⟩, h3⟩, fun va vb w h h' => rNew_bad va vb m p n q w h.1 l1 h'.1 l2 hk⟩
  · obtain ⟨⟨e1, z1⟩, e2, z2⟩ := oks_true hk
    obtain ⟨P, Q, c, h1, h2⟩ := new_pair p q z1 z2
    subst e1; subst e2
    exact ⟨P, Q, c, fun va vb w h h' => h1 va vb w h.1 h'.1, fun va vb w h h' => h2 va vb w h h'⟩
end
end Go.Proofs.YthgidehapcfciaaDoor.Rt
