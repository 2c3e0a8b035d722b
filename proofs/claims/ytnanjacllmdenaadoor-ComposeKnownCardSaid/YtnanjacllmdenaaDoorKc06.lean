/- Package mono: values, Value. -/
import Derived.Test.YtnanjacllmdenaaDoorKc05
import Derived.Deep.DeepCutAuto
import Derived.Deep.CutBlock
import Derived.Test.YtnanjacllmdenaaDoorKc04
set_option linter.unusedSimpArgs false
set_option linter.unusedVariables false
/- Package mono: values, Value. -/
namespace Go.Proofs.YtnanjacllmdenaaDoor
open Go.RowKit
set_option linter.unusedVariables false

theorem reads_opt_m {w : World} {a : Option Addr} {cap n : Nat} {l : List Nat} (h : Reads w (.slice a n cap) l) :
    n = l.length ∧ ∀ i, i < l.length → ∃ b off, a = some ⟨b, off, none⟩ ∧ w.cell? ⟨b, off + i, none⟩ = some (.int .u64 ((l.getD i 0 : Nat) : Int)) := by
  refine ⟨h.len, fun i hi => ?_⟩
  rcases h.2.2 with ⟨rfl, _⟩ | ⟨b, off, cap, he, hc⟩
  · simp at hi
  · simp only [Value.slice.injEq] at he
    exact ⟨b, off, he.1, hc i hi⟩
/-- An environment: what it holds, and its slices. -/
structure En where (l1 l2 l3 l4 l5 l6 l7 : List Nat)
structure Ev where (v1 v2 v3 v4 v5 v6 v7 : Value)
def enL (E : En) (k : Int) : List Nat := if k = 1 then E.l1 else if k = 2 then E.l2 else if k = 3 then E.l3 else if k = 4 then E.l4 else if k = 5 then E.l5 else if k = 6 then E.l6 else if k = 7 then E.l7 else []
def enV (V : Ev) (k : Int) : Value := if k = 1 then V.v1 else if k = 2 then V.v2 else if k = 3 then V.v3 else if k = 4 then V.v4 else if k = 5 then V.v5 else if k = 6 then V.v6 else if k = 7 then V.v7 else .slice none 0 0
abbrev evL (V : Ev) : List Value := [V.v1, V.v2, V.v3, V.v4, V.v5, V.v6, V.v7]
abbrev evA (V : Ev) : Value := .agg #[V.v1, V.v2, V.v3, V.v4, V.v5, V.v6, V.v7]
def EnR (w : World) (V : Ev) (E : En) : Prop := Reads w V.v1 E.l1 ∧ Reads w V.v2 E.l2 ∧ Reads w V.v3 E.l3 ∧ Reads w V.v4 E.l4 ∧ Reads w V.v5 E.l5 ∧ Reads w V.v6 E.l6 ∧ Reads w V.v7 E.l7
theorem EnR.on {w w' : World} {V : Ev} {E : En} (h : EnR w V E) (k : On w w') : EnR w' V E :=
  ⟨h.1.on k, h.2.1.on k, h.2.2.1.on k, h.2.2.2.1.on k, h.2.2.2.2.1.on k, h.2.2.2.2.2.1.on k, h.2.2.2.2.2.2.on k⟩
theorem EnR.get {w : World} {V : Ev} {E : En} (h : EnR w V E) (k : Int) : Reads w (enV V k) (enL E k) := by
  unfold enV enL
  obtain ⟨h1, h2, h3, h4, h5, h6, h7⟩ := h
  by_cases e1 : k = 1; · simp only [e1, if_true]; exact h1
  by_cases e2 : k = 2; · simp only [e1, e2, if_true, if_false]; exact h2
  by_cases e3 : k = 3; · simp only [e1, e2, e3, if_true, if_false]; exact h3
  by_cases e4 : k = 4; · simp only [e1, e2, e3, e4, if_true, if_false]; exact h4
  by_cases e5 : k = 5; · simp only [e1, e2, e3, e4, e5, if_true, if_false]; exact h5
  by_cases e6 : k = 6; · simp only [e1, e2, e3, e4, e5, e6, if_true, if_false]; exact h6
  by_cases e7 : k = 7; · simp only [e1, e2, e3, e4, e5, e6, e7, if_true, if_false]; exact h7
  simp only [e1, e2, e3, e4, e5, e6, e7, if_false]; exact Reads.nil _ _ _
def hasE (E : En) (v : Vr) : Bool := decide (0 ≤ v.2 ∧ v.2 < ((enL E v.1).length : Int))
def valE (E : En) (v : Vr) : Nat := (enL E v.1).getD v.2.toNat 0
/-- What Value returns: the value and the error. -/
def vVal (f : Int) (E : En) (s : List Mo) : Nat := if validB f = true then (if allIn (hasE E) s = true then valS f (valE E) s else 0) else 0
def vErr (f : Int) (E : En) (s : List Mo) : Int := if validB f = true then (if allIn (hasE E) s = true then 0 else 2) else 1

theorem enV_no {V : Ev} {k : Int} (h : k ≠ 1 ∧ k ≠ 2 ∧ k ≠ 3 ∧ k ≠ 4 ∧ k ≠ 5 ∧ k ≠ 6 ∧ k ≠ 7) : enV V k = .slice none 0 0 := by
  obtain ⟨h1, h2, h3, h4, h5, h6, h7⟩ := h; simp [enV, h1, h2, h3, h4, h5, h6, h7]
theorem values_any (V : Ev) (k : Int) (Q : Nat) (w : World) (hQ : VB Q w (evL V)) : Calls Tryd.prog 142 #[.pointer (some ⟨Q, 0, none⟩), .int .u8 k] w fun e w' => e = .returned (enV V k) ∧ w = w' := by
  have c0 := hQ.2.1 0 _ rfl; have c1 := hQ.2.1 1 _ rfl; have c2 := hQ.2.1 2 _ rfl; have c3 := hQ.2.1 3 _ rfl; have c4 := hQ.2.1 4 _ rfl; have c5 := hQ.2.1 5 _ rfl; have c6 := hQ.2.1 6 _ rfl
  clear hQ
  rcases kinds7 k with rfl | rfl | rfl | rfl | rfl | rfl | rfl | h
  all_goals first
    | (go_enter Tryd.func142, Tryd.ntmps142
       go_wp2
       go_ret
       exact ⟨rfl, rfl⟩)
    | skip
  rw [enV_no h]
  obtain ⟨h1, h2, h3, h4, h5, h6, h7⟩ := h
  have e1 := beq_no h1; have e2 := beq_no h2; have e3 := beq_no h3; have e4 := beq_no h4; have e5 := beq_no h5; have e6 := beq_no h6; have e7 := beq_no h7
  clear h1 h2 h3 h4 h5 h6 h7
  go_enter Tryd.func142, Tryd.ntmps142
  go_wp2
  go_ret
  exact ⟨rfl, rfl⟩

theorem prodV_snoc (f : Int) (e : Vr → Nat) (c : Nat) (l : List Vr) (k : Nat) (h : k < l.length) : prodV f e c (l.take (k + 1)) = mulF f (prodV f e c (l.take k)) (e (l.getD k zV)) := by
  rw [take_snoc_m l zV k h]; unfold prodV; rw [List.foldl_append]; rfl
theorem valS_snoc (f : Int) (e : Vr → Nat) (s : List Mo) (k : Nat) (h : k < s.length) : valS f e (s.take (k + 1)) = addF f (valS f e (s.take k)) (prodV f e (s.getD k zM).1 (s.getD k zM).2) := by
  rw [take_snoc_m s zM k h]; unfold valS; rw [List.foldl_append]; rfl
theorem all_snoc {α : Type} (p : α → Bool) (z : α) (l : List α) (k : Nat) (h : k < l.length) : (l.take (k + 1)).all p = ((l.take k).all p && p (l.getD k z)) := by
  rw [take_snoc_m l z k h, List.all_append]; simp
theorem all_no {α : Type} (p : α → Bool) (z : α) (l : List α) (k : Nat) (h : k < l.length) (hp : p (l.getD k z) = false) : l.all p = false := by
  cases hc : l.all p
  · rfl
  · rw [List.all_eq_true] at hc
    have := hc (l.getD k z) (by rw [List.getD_eq_getElem?_getD, List.getElem?_eq_getElem h]; exact List.getElem_mem _)
    rw [hp] at this; cases this
theorem prodV_le (f : Int) (e : Vr → Nat) (c : Nat) (vs : List Vr) (hc : c ≤ 18446744073709551615) : prodV f e c vs ≤ 18446744073709551615 := by
  have key : ∀ (vs : List Vr) (c : Nat), c ≤ 18446744073709551615 → prodV f e c vs ≤ 18446744073709551615 := by
    intro vs
    induction vs with
    | nil => intro c h; exact h
    | cons v r ih => intro c _; exact ih (mulF f c (e v)) (by have := mulF_le f c (e v); omega)
  exact key vs c hc
theorem valS_le (f : Int) (e : Vr → Nat) (s : List Mo) : valS f e s ≤ 998244353 := by
  have key : ∀ (s : List Mo) (t : Nat), t ≤ 998244353 → s.foldl (fun t m => addF f t (prodV f e m.1 m.2)) t ≤ 998244353 := by
    intro s
    induction s with
    | nil => intro t h; exact h
    | cons m r ih => intro t _; rw [List.foldl_cons]; exact ih _ (addF_le f _ _)
  exact key s 0 (by omega)
theorem valE_le {w : World} {V : Ev} {E : En} (h : EnR w V E) (v : Vr) : valE E v ≤ 18446744073709551615 := by
  unfold valE
  have := (h.get v.1).1
  rcases Nat.lt_or_ge v.2.toNat (enL E v.1).length with hi | hi
  · rw [List.getD_eq_getElem?_getD, List.getElem?_eq_getElem hi]; exact this _ (List.getElem_mem _)
  · rw [List.getD_eq_getElem?_getD, List.getElem?_eq_none hi]; simp

theorem value_no (f : Int) (V : Ev) (v : Value) (w : World) (hT : Tab w) (hv : validB f = false) :
    Calls Tryd.prog 91 #[.int .i64 f, v, evA V] w fun e w' => e = .returned (.tuple #[.int .u64 0, .int .i64 1]) ∧ On w w' := by
  have HV : Hid (∀ w, Calls Tryd.prog 107 #[.int .i64 f] w fun e w' => e = .returned (.bool false) ∧ w = w') := fun w => by have h := valid_any f w; rw [hv] at h; exact h
  have H0 := Lib.hid (On.refl hT)
  clear hv hT
  go_enter Tryd.func91, Tryd.ntmps91
  go_wp2_with (go_at_call 107; refine (HV.out _).mono ?_; rintro e w' ⟨rfl, rfl⟩)
  go_ret2
  exact ⟨rfl, H0.out.alloc _⟩
set_option maxHeartbeats 2000000 in
theorem value_yes (f : Int) (s : List Mo) (v : Value) (V : Ev) (E : En) (w : World) (hT : Tab w) (hv : validB f = true) (hR : MRd w v s) (hE : EnR w V E) :
    Calls Tryd.prog 91 #[.int .i64 f, v, evA V] w fun e w' => e = .returned (.tuple #[.int .u64 ((vVal f E s : Nat) : Int), .int .i64 (vErr f E s)]) ∧ On w w' := by
  obtain ⟨a, cap, rfl⟩ := hR.shape
  have HF : Hid (∀ w, Calls Tryd.prog 107 #[.int .i64 f] w fun e w' => e = .returned (.bool true) ∧ w = w') := fun w => by have h := valid_any f w; rw [hv] at h; exact h
  have HR := Lib.hid hR
  have HC := Lib.hid hR.cells
  have hL := hR.2.1
  have HLE := Lib.hid hR.le
  have HE := Lib.hid hE
  have hpl := pOf_le f
  obtain ⟨w1, hw1⟩ : ∃ w1, w1 = w.alloc (.cells #[V.v1, V.v2, V.v3, V.v4, V.v5, V.v6, V.v7] 61) := ⟨_, rfl⟩
  have HO1 : Hid (On w w1) := by unfold Hid; rw [hw1]; exact (On.refl hT).alloc _
  obtain ⟨Q, hQ⟩ : ∃ Q, Q = w.heap.size := ⟨_, rfl⟩
  have HB1 : Hid (VB Q w1 (evL V)) := by unfold Hid; rw [hw1]; exact vb_at _ _ _ _ hQ
  have HW1 := Lib.hid hw1
  have HQ := Lib.hid hQ
  clear hR hT hE hw1 hQ
  obtain ⟨n, hn⟩ : ∃ n, s.length = n := ⟨_, rfl⟩
  have HN := Lib.hid hn
  rw [hn] at HC hL ⊢
  clear hn
  have HRET : Hid (∀ (b : Bool) (x : Nat) (y : Int) (w' : World), allIn (hasE E) s = b → (b = true → x = valS f (valE E) s ∧ y = 0) → (b = false → x = 0 ∧ y = 2) → On w w' →
      Ending.returned (.tuple #[.int .u64 (x : Int), .int .i64 y]) = .returned (.tuple #[.int .u64 ((vVal f E s : Nat) : Int), .int .i64 (vErr f E s)]) ∧ On w w') := by
    intro b x y w' hb h1 h2 hO
    refine ⟨?_, hO⟩
    unfold vVal vErr
    rw [hv, hb]
    cases b
    · obtain ⟨rfl, rfl⟩ := h2 rfl; rfl
    · obtain ⟨rfl, rfl⟩ := h1 rfl; rfl
  clear hv
  go_enter Tryd.func91, Tryd.ntmps91
  go_upto_region 1 with fail
  rw [← HW1.out, ← HQ.out]
  go_wp2_with (go_at_call 107; refine (HF.out _).mono ?_; rintro e w' ⟨rfl, rfl⟩)
  go_loopw [8, 20] (fun vt vi wr => ∃ k t : Nat, k ≤ n ∧ vi = .int .i64 (k : Int) ∧ vt = .int .u64 (t : Int) ∧ Hid (t = valS f (valE E) (s.take k)) ∧ Hid (allIn (hasE E) (s.take k) = true) ∧ Hid (On w1 wr)) (fun _ vi _ => n - (intOf vi).toNat)
  case atStart => exact ⟨0, 0, Nat.zero_le _, rfl, rfl, Lib.hid rfl, Lib.hid rfl, Lib.hid (On.refl HO1.out.tab)⟩
  case round =>
    rename World => wr
    obtain ⟨k, t, hk, rfl, rfl, HM, HA, HO⟩ := hrel
    by_cases hlt : k < n
    · obtain ⟨b, off, a', c', rfl, c0, c1, c2⟩ := HC.out k hlt
      have HOW := Lib.hid (HO1.out.trans HO.out)
      have c0' := (HOW.out.cell (p := ⟨b, off + k * 2, none⟩) (cell_size c0)).trans c0
      have c1' := (HOW.out.cell (p := ⟨b, off + k * 2 + 1, none⟩) (cell_size c1)).trans c1
      have hlt' : (k : Int) < (n : Int) := by omega
      have HV := Lib.hid (c2.on HOW.out)
      have hkl : k < s.length := by rw [HN.out]; exact hlt
      have htb : t ≤ 998244353 := by rw [HM.out]; exact valS_le _ _ _
      have hcb := HLE.out k
      have HS : Hid (valS f (valE E) (s.take (k + 1)) = addF f t (prodV f (valE E) (s.getD k zM).1 (s.getD k zM).2)) := by
        have h := valS_snoc f (valE E) s k hkl; rw [← HM.out] at h; exact h
      have HA1 : Hid ((s.getD k zM).2.all (hasE E) = true → allIn (hasE E) (s.take (k + 1)) = true) := fun h => by
        have := all_snoc (fun m : Mo => m.2.all (hasE E)) zM s k hkl
        unfold allIn; rw [this, show (s.take k).all (fun m : Mo => m.2.all (hasE E)) = true from HA.out, h]; rfl
      have HA0 : Hid ((s.getD k zM).2.all (hasE E) = false → allIn (hasE E) s = false) := fun h => all_no (fun m : Mo => m.2.all (hasE E)) zM s k hkl h
      clear c0 c1 c2 HM HA hkl
      generalize (s.getD k zM).1 = cc at *
      generalize (s.getD k zM).2 = vs at *
      have hvl := HV.out.2.1
      have HVC := Lib.hid HV.out.cells
      have HVO := Lib.hid HV.out.ok
      obtain ⟨nv, hnv⟩ : ∃ nv, vs.length = nv := ⟨_, rfl⟩
      have HNV := Lib.hid hnv
      rw [hnv] at hvl HVC c1' HV
      clear hnv
      have HPB := Lib.hid (fun l => prodV_le f (valE E) cc l hcb)
      go_wp2_with fail
      go_loopw [11, 29] (fun vp vj wq => ∃ j p : Nat, j ≤ nv ∧ vj = .int .i64 (j : Int) ∧ vp = .int .u64 (p : Int) ∧ Hid (p = prodV f (valE E) cc (vs.take j)) ∧ Hid ((vs.take j).all (hasE E) = true) ∧ Hid (On wr wq)) (fun _ vj _ => nv - (intOf vj).toNat)
      case atStart => exact ⟨0, cc, Nat.zero_le _, rfl, rfl, Lib.hid rfl, Lib.hid rfl, Lib.hid ((On.refl HO.out.tab).alloc _)⟩
      case round =>
        rename World => wq
        obtain ⟨j, p, hj, rfl, rfl, HD, HAJ, HQW⟩ := hrel
        have HO1Q := Lib.hid (HO.out.trans HQW.out)
        by_cases hjt : j < nv
        · obtain ⟨bv, ov, rfl, e0, e1⟩ := HVC.out j hjt
          have e0' := (HQW.out.cell (p := ⟨bv, ov + j * 2, none⟩) (cell_size e0)).trans e0
          have e1' := (HQW.out.cell (p := ⟨bv, ov + j * 2 + 1, none⟩) (cell_size e1)).trans e1
          have hjt' : (j : Int) < (nv : Int) := by omega
          have hjl : j < vs.length := by rw [HNV.out]; exact hjt
          have HS2 := Lib.hid (prodV_snoc f (valE E) cc vs j hjl)
          have HA2 : Hid (hasE E (vs.getD j zV) = true → (vs.take (j + 1)).all (hasE E) = true) := fun h => by rw [all_snoc _ zV _ _ hjl, HAJ.out, h]; rfl
          have HA3 : Hid (hasE E (vs.getD j zV) = false → vs.all (hasE E) = false) := fun h => all_no _ zV _ _ hjl h
          have hpb : p ≤ 18446744073709551615 := by rw [HD.out]; exact HPB.out _
          have hok := HVO.out j
          rw [← HD.out] at HS2
          have HGET := Lib.hid (((HE.out.on HO1.out).on HO1Q.out).get (vs.getD j zV).1)
          have hve := valE_le HE.out (vs.getD j zV)
          clear e0 e1 HD HAJ hjl
          have HH : Hid (hasE E (vs.getD j zV) = decide (0 ≤ (vs.getD j zV).2 ∧ (vs.getD j zV).2 < ((enL E (vs.getD j zV).1).length : Int))) := rfl
          have HVE : Hid (valE E (vs.getD j zV) = (enL E (vs.getD j zV).1).getD (vs.getD j zV).2.toNat 0) := rfl
          generalize hasE E (vs.getD j zV) = hb at *
          generalize valE E (vs.getD j zV) = ve at *
          generalize vs.getD j zV = x at *
          obtain ⟨xk, xi⟩ := x
          simp only at e0' e1' HS2 hok HGET HH HVE
          have HCV := Lib.hid (fun w (h : VB Q w (evL V)) => values_any V xk Q w h)
          have HX : Hid (∀ o, VB Q (wq.alloc o) (evL V)) := fun o => HB1.out.on (HO1Q.out.alloc o)
          have HY : Hid (∀ o, On wr (wq.alloc o)) := fun o => HQW.out.alloc o
          have HY1 : Hid (∀ o, On w (wq.alloc o)) := fun o => HO1.out.trans (HO1Q.out.alloc o)
          have HTB : Hid (∀ o, Tab (wq.alloc o)) := fun o => (HQW.out.alloc o).tab
          obtain ⟨ae, ce, hsh⟩ := HGET.out.shape
          have HCE := HGET.out
          rw [hsh] at HCE HCV
          have hel := HCE.2.1
          obtain ⟨hU, -⟩ := HCE
          have HGE := Lib.hid HGET.out
          have HSH := Lib.hid hsh
          clear hsh hU HGET
          generalize enL E xk = le at *
          have hok2 := hok.2.2
          clear hok
          by_cases hneg : xi < 0
          · have HB := HH.out
            rw [show decide (0 ≤ xi ∧ xi < (le.length : Int)) = false by simp; omega] at HB
            have HR0 := Lib.hid (HA0.out (HA3.out HB))
            clear HB HH
            go_wp2_with (go_at_call 142; refine (HCV.out _ (HX.out _)).mono ?_; rintro e w' ⟨rfl, rfl⟩)
            go_ret2
            exact HRET.out false 0 2 _ HR0.out (fun h => by cases h) (fun _ => ⟨rfl, rfl⟩) (HY1.out _)
          · by_cases hbig : xi < (le.length : Int)
            · have HB := HH.out
              rw [show decide (0 ≤ xi ∧ xi < (le.length : Int)) = true by simp; omega] at HB
              have HA4 := Lib.hid (HA2.out HB)
              obtain ⟨xn, rfl⟩ : ∃ xn : Nat, xi = (xn : Int) := ⟨xi.toNat, by omega⟩
              have hxn : xn < le.length := by omega
              have hxz : ¬ ((le.length : Nat) : Int) ≤ (xn : Int) := by omega
              rw [Int.toNat_natCast] at HVE
              obtain ⟨-, hcE⟩ := reads_opt_m (HSH.out ▸ HGE.out)
              obtain ⟨be, oe, rfl, g0⟩ := hcE xn hxn
              have HG : Hid (∀ o, (wq.alloc o).cell? ⟨be, oe + xn, none⟩ = some (.int .u64 (ve : Int))) := fun o => by
                rw [World.cell?_alloc_past _ _ _ (cell_size g0), HVE.out]; exact g0
              clear HB HH hcE g0 HA2 HA3 hneg
              have hmb := mulF_le f p ve
              have HVM := Lib.hid (fun o => mul_any f p ve (wq.alloc o) (HTB.out o) (by omega) (by omega))
              have g1 := HG.out (.cells #[.int .u8 xk, .int .i64 (xn : Int)] 52)
              go_wp2_with (first | (go_at_call 142; refine (HCV.out _ (HX.out _)).mono ?_; rintro e w' ⟨rfl, rfl⟩) | (go_at_call 121; refine (HVM.out _).mono ?_; rintro e w' ⟨rfl, rfl⟩))
              go_roundw
              case rel => exact ⟨j + 1, mulF f p ve, by omega, by simp, by simp, Lib.hid HS2.out.symm, HA4, Lib.hid (HY.out _)⟩
              case measure => simp [intOf]; omega
            · have HB := HH.out
              rw [show decide (0 ≤ xi ∧ xi < (le.length : Int)) = false by simp; omega] at HB
              have HR0 := Lib.hid (HA0.out (HA3.out HB))
              have hge : (le.length : Int) ≤ xi := by omega
              clear HB HH
              go_wp2_with (go_at_call 142; refine (HCV.out _ (HX.out _)).mono ?_; rintro e w' ⟨rfl, rfl⟩)
              go_ret2
              exact HRET.out false 0 2 _ HR0.out (fun h => by cases h) (fun _ => ⟨rfl, rfl⟩) (HY1.out _)
        · obtain rfl : j = nv := by omega
          have HF2 : Hid (valS f (valE E) (s.take (k + 1)) = addF f t p) := by
            unfold Hid; rw [HS.out, HD.out, ← HNV.out, List.take_length]
          have HA4 : Hid (allIn (hasE E) (s.take (k + 1)) = true) := HA1.out (by have h := HAJ.out; rw [← HNV.out, List.take_length] at h; exact h)
          have hpb : p ≤ 18446744073709551615 := by rw [HD.out]; exact HPB.out _
          have HTQ := Lib.hid HO1Q.out.tab
          clear HS HD HA1 HA0 HAJ
          go_wp2_with (go_at_call 94; refine (add_any _ _ _ _ HTQ.out (by omega) (by omega)).mono ?_; rintro e w' ⟨rfl, rfl⟩)
          go_roundw
          case rel => exact ⟨k + 1, addF f t p, by omega, by simp, by simp, Lib.hid HF2.out.symm, HA4, HO1Q⟩
          case measure => simp [intOf]; omega
    · obtain rfl : k = n := by omega
      have HE1 : Hid (t = valS f (valE E) s) := by unfold Hid; rw [HM.out, ← HN.out, List.take_length]
      have HE2 : Hid (allIn (hasE E) s = true) := by have h := HA.out; rw [← HN.out, List.take_length] at h; exact h
      have HOW := Lib.hid (HO1.out.trans HO.out)
      clear HM HA
      go_wp2
      go_ret2
      exact HRET.out true t 0 _ HE2.out (fun _ => ⟨HE1.out, rfl⟩) (fun h => by cases h) HOW.out
theorem value_any (f : Int) (s : List Mo) (v : Value) (V : Ev) (E : En) (w : World) (hT : Tab w) (hR : MRd w v s) (hE : EnR w V E) :
    Calls Tryd.prog 91 #[.int .i64 f, v, evA V] w fun e w' => e = .returned (.tuple #[.int .u64 ((vVal f E s : Nat) : Int), .int .i64 (vErr f E s)]) ∧ On w w' := by
  cases hv : validB f
  · have h := value_no f V v w hT hv
    have e1 : vVal f E s = 0 := by unfold vVal; rw [hv]; rfl
    have e2 : vErr f E s = 1 := by unfold vErr; rw [hv]; rfl
    rw [e1, e2]; exact h
  · exact value_yes f s v V E w hT hv hR hE
end Go.Proofs.YtnanjacllmdenaaDoor

/- The document's own: counts, Degree, list, Value. -/
namespace Go.Proofs.YtnanjacllmdenaaDoor
open Go.RowKit
set_option linter.unusedVariables false

end Go.Proofs.YtnanjacllmdenaaDoor
