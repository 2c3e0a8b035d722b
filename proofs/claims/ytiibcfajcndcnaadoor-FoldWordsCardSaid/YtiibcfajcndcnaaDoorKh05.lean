/- Package code: lists that grow side by side. -/
import Derived.Test.YtiibcfajcndcnaaDoorKf09
import Derived.Test.YtiibcfajcndcnaaDoorKh04
import Derived.Test.YtiibcfajcndcnaaDoorKf12
import Derived.Test.YtiibcfajcndcnaaDoorKh03
/- Package code: lists that grow side by side. -/
namespace Go.Proofs.YtiibcfajcndcnaaDoor
open Go.RowKit
set_option linter.unusedVariables false

/-- The first n known places among the first k. -/
def firstN (kn : Nat → Bool) (n k : Nat) : List Nat := ((List.range k).filter kn).take n
theorem firstN_zero (kn : Nat → Bool) (n : Nat) : firstN kn n 0 = [] := by simp [firstN]
theorem firstN_yes {kn : Nat → Bool} {n k : Nat} (h : kn k = true) (hl : (firstN kn n k).length < n) : firstN kn n (k + 1) = firstN kn n k ++ [k] := by
  unfold firstN at *
  rw [List.range_succ, List.filter_append, List.filter_cons_of_pos h, List.filter_nil]
  rw [List.length_take] at hl
  rw [List.take_append, List.take_of_length_le (by omega), List.take_of_length_le (by simp; omega)]
theorem firstN_no {kn : Nat → Bool} {n k : Nat} (h : kn k = false ∨ n ≤ (firstN kn n k).length) : firstN kn n (k + 1) = firstN kn n k := by
  unfold firstN at *
  rw [List.range_succ, List.filter_append]
  rcases h with h | h
  · rw [List.filter_cons_of_neg (by rw [h]; exact Bool.false_ne_true), List.filter_nil, List.append_nil]
  · rw [List.length_take] at h
    rw [List.take_append, show n - ((List.range k).filter kn).length = 0 by omega, List.take_zero, List.append_nil]
theorem firstN_len (kn : Nat → Bool) (n k : Nat) : (firstN kn n k).length ≤ n := by unfold firstN; rw [List.length_take]; omega
theorem firstN_le (kn : Nat → Bool) (n k : Nat) : (firstN kn n k).length ≤ k := by
  unfold firstN; rw [List.length_take]
  have := List.length_filter_le kn (List.range k)
  rw [List.length_range] at this
  omega
/-- A list of Bools in memory. -/
def ReadsK (w : World) (v : Value) (kn : Nat → Bool) (m : Nat) : Prop := ∃ a cap, v = .slice a m cap ∧ ∀ j, j < m → ∃ b o, a = some ⟨b, o, none⟩ ∧ w.cell? ⟨b, o + j, none⟩ = some (.bool (kn j))
theorem ReadsK.on {w w' : World} {v : Value} {kn : Nat → Bool} {m : Nat} (h : ReadsK w v kn m) (k : On w w') : ReadsK w' v kn m := by
  obtain ⟨a, cap, h1, h2⟩ := h
  refine ⟨a, cap, h1, fun j hj => ?_⟩
  obtain ⟨b, o, h3, h4⟩ := h2 j hj
  exact ⟨b, o, h3, by rw [k.cell (p := ⟨b, o + j, none⟩) (cell_size h4)]; exact h4⟩
theorem heap_cell (w : World) (x : Nat) (t : TypeId) : (w.alloc (.cells #[.int .u64 (x : Int)] t)).cell? ⟨w.heap.size, 0, none⟩ = some (.int .u64 (x : Int)) := World.cell?_alloc_at _ _ _ _ rfl
theorem heap_cell' (w : World) (x : Nat) (t : TypeId) (C : Nat) (hC : C = w.heap.size) : (w.alloc (.cells #[.int .u64 (x : Int)] t)).cell? ⟨C, 0, none⟩ = some (.int .u64 (x : Int)) := hC ▸ heap_cell w x t
theorem cell_alloc {w : World} {p : Addr} {v : Value} {o : Obj} (h : w.cell? p = some v) : (w.alloc o).cell? p = some v := by
  rw [World.cell?_alloc_old _ _ _ (Nat.ne_of_lt (cell_size h))]; exact h
/-- Two lists that grow side by side, in memory from B on. -/
def Two (B : Nat) (W w : World) (vx vy : Value) (X Y : List Nat) : Prop := On W w ∧ W.heap.size ≤ B ∧ B ≤ w.heap.size ∧ Ow B w vx X ∧ Ow B w vy Y ∧ Apart vx vy
theorem Two.start {W : World} (h : Tab W) : Two W.heap.size W W (.slice none 0 0) (.slice none 0 0) [] [] :=
  ⟨On.refl h, Nat.le_refl _, Nat.le_refl _, Ow.nil _ _, Ow.nil _ _, fun g h => by simp [Value.ownBlock] at h⟩
theorem Two.drew {B : Nat} {W w : World} {vx vy : Value} {X Y : List Nat} (h : Two B W w vx vy X Y) : Two B W w.drew vx vy X Y := ⟨h.1.drew, h.2⟩
theorem Two.alloc {B : Nat} {W w : World} {vx vy : Value} {X Y : List Nat} (h : Two B W w vx vy X Y) (o : Obj) : Two B W (w.alloc o) vx vy X Y :=
  ⟨h.1.alloc o, h.2.1, by have := h.2.2.1; simp; omega, h.2.2.2.1.alloc' o, h.2.2.2.2.1.alloc' o, h.2.2.2.2.2⟩
theorem Two.eq {B : Nat} {W w : World} {vx vy : Value} {X Y X' Y' : List Nat} (h : Two B W w vx vy X Y) (e : X' = X) (e2 : Y' = Y) : Two B W w vx vy X' Y' := by subst e e2; exact h
theorem Two.lt {B : Nat} {W w : World} {vx vy : Value} {X Y : List Nat} (h : Two B W w vx vy X Y) : (∀ g, vx.ownBlock = some g → g < w.heap.size) ∧ ∀ g, vy.ownBlock = some g → g < w.heap.size :=
  ⟨fun g e => (World.ownsRow.lt h.2.2.2.1 g e).2, fun g e => (World.ownsRow.lt h.2.2.2.2.1 g e).2⟩
theorem Two.far {B : Nat} {W w : World} {vx vy : Value} {X Y : List Nat} (h : Two B W w vx vy X Y) {D : Nat} (hD : w.heap.size ≤ D) : vx.ownBlock ≠ some D := fun e => by have := h.lt.1 _ e; omega
theorem Two.appX {B : Nat} {W w : World} {vx vy : Value} {X Y : List Nat} (h : Two B W w vx vy X Y) (x C : Nat) (hx : w.cell? ⟨C, 0, none⟩ = some (.int .u64 (x : Int))) {q : Nat} (hq : X.length = q) (hl : q ≤ 1000) :
    ∃ a c w', (∀ ty, (Builtin.append_ #[33, 33] ty #[vx, .slice (some ⟨C, 0, none⟩) 1 1]).run Tryd.prog w = .ok (.slice a (q + 1) c) w') ∧ Two B W w' (.slice a (q + 1) c) vy (X ++ [x]) Y ∧
      ∀ D z, D < w.heap.size → vx.ownBlock ≠ some D → w.cell? ⟨D, 0, none⟩ = some z → w'.cell? ⟨D, 0, none⟩ = some z := by
  obtain ⟨h1, h2, h3, h4, h5, h6⟩ := h
  obtain ⟨v', w', a1, a2, a3, a4⟩ := append_cell B x X vx w C hx h4 h3 (by omega)
  obtain ⟨a, c, rfl⟩ := a2.shape
  have e : (X ++ [x]).length = q + 1 := by simp [hq]
  rw [e] at a1 a2 a4
  have hs := a3.size
  exact ⟨a, c, w', a1, ⟨h1.grown h2 h4 a3, h2, by omega, a2, h5.kept' a3 h6.symm, (h6.symm.grown h5 a4).symm⟩, fun D z hD hne hc => by rw [World.cell?_of_block (a := ⟨D, 0, none⟩) (a3.block D hD (fun e => hne e.symm))]; exact hc⟩
theorem Two.appY {B : Nat} {W w : World} {vx vy : Value} {X Y : List Nat} (h : Two B W w vx vy X Y) (y C : Nat) (hy : w.cell? ⟨C, 0, none⟩ = some (.int .u64 (y : Int))) {q : Nat} (hq : Y.length = q) (hl : q ≤ 1000) :
    ∃ a c w', (∀ ty, (Builtin.append_ #[33, 33] ty #[vy, .slice (some ⟨C, 0, none⟩) 1 1]).run Tryd.prog w = .ok (.slice a (q + 1) c) w') ∧ Two B W w' vx (.slice a (q + 1) c) X (Y ++ [y]) := by
  obtain ⟨h1, h2, h3, h4, h5, h6⟩ := h
  obtain ⟨v', w', a1, a2, a3, a4⟩ := append_cell B y Y vy w C hy h5 h3 (by omega)
  obtain ⟨a, c, rfl⟩ := a2.shape
  have e : (Y ++ [y]).length = q + 1 := by simp [hq]
  rw [e] at a1 a2 a4
  have hs := a3.size
  exact ⟨a, c, w', a1, h1.grown h2 h5 a3, h2, by omega, h4.kept' a3 h6, a2, h6.grown h4 a4⟩

end Go.Proofs.YtiibcfajcndcnaaDoor

/- The document's own answers for folds: At: what the call returns. -/
namespace Go.Proofs.YtiibcfajcndcnaaDoor
open Go.RowKit
set_option linter.unusedVariables false

theorem Two.drewN {B : Nat} {W w : World} {vx vy : Value} {X Y : List Nat} (h : Two B W w vx vy X Y) (n : Nat) : Two B W (w.drewN n) vx vy X Y := ⟨h.1.drewN n, h.2⟩
theorem pt_red {f : Int} (hp : 0 < pOf f) (x j : Nat) : ptF f 3 (redF f x) j = ptF f 3 x j := by
  unfold ptF
  rw [mulF_pos _ _ _ hp, mulF_pos _ _ _ hp, redF_pos _ _ hp, Nat.mod_mul_mod]
theorem at_yes9 (f : Int) (x z : Nat) (v : List Nat) (h : shB f x = true) : atF f x v z = evF f (coefL f 3 (redF f x) v) z := by unfold atF; rw [if_pos h]
theorem at_thru {f : Int} (hv : validB f = true) (x : Nat) (hs : x % pOf f ≠ 0) (v : List Nat) (hl : v.length = 8) (hx : ∀ y ∈ ptL f 3 x, y ≤ 18446744073709551615) (hy : ∀ y ∈ v, y ≤ 18446744073709551615) :
    okN f (ptsL (ptL f 3 x) v hx hy) ∧ ∀ z, evF f (thruL f (ptsL (ptL f 3 x) v hx hy)) z = evF f (coefL f 3 (redF f x) v) z := by
  have hp := (valid_iff f).1 hv
  have h3 := three_two f hv
  have hpl : (ptL f 3 x).length = 8 := ptL_len f 3 x
  have hok : okN f (ptsL (ptL f 3 x) v hx hy) := by
    rw [okN_iff hv, ptsL_map]
    exact ptL_pair hv h3 hs
  refine ⟨hok, fun z => ?_⟩
  have hsr : redF f x % pOf f ≠ 0 := by rw [redF_pos _ _ hp, Nat.mod_mod]; exact hs
  have h := thruL_only hv hok (coefL f 3 (redF f x) v) (by rw [coefL_len, ptsL_len, hpl]; decide) (fun p hpm => by
    obtain ⟨j, hj, rfl⟩ := (ptsL_mem _ _ hx hy p).1 hpm
    rw [hpl] at hj
    show evF f (coefL f 3 (redF f x) v) ((ptL f 3 x).getD j 0) = v.getD j 0 % pOf f
    rw [ptL_getD _ _ _ _ hj, ← pt_red hp, coef_value hv h3 (redF f x) hsr v (by rw [hl]; decide) j hj, redF_pos _ _ hp])
  rw [← h, evF_norm]
set_option maxRecDepth 100000 in
set_option maxHeartbeats 2000000 in
theorem rat_any (f : Int) (x z : Nat) (v : List Nat) (w : World) (hT : Tab w) (hl : v.length = 8) (hb : ∀ y ∈ v, y ≤ 18446744073709551615) (hx : x ≤ 18446744073709551615) (hz : z ≤ 18446744073709551615) :
    Calls Tryd.prog 15 #[.int .i64 f, .int .u64 (x : Int), arrV v, .int .u64 (z : Int)] w fun e w' => e = .returned (.int .u64 ((atF f x v z : Nat) : Int)) ∧ On w w' := by
  have hO1 := (On.refl hT).alloc (.cells #[.int .u64 ((v.getD 0 0 : Nat) : Int), .int .u64 ((v.getD 1 0 : Nat) : Int), .int .u64 ((v.getD 2 0 : Nat) : Int), .int .u64 ((v.getD 3 0 : Nat) : Int), .int .u64 ((v.getD 4 0 : Nat) : Int), .int .u64 ((v.getD 5 0 : Nat) : Int), .int .u64 ((v.getD 6 0 : Nat) : Int), .int .u64 ((v.getD 7 0 : Nat) : Int)] 25)
  have hR := hR8 w v hl hb 25
  obtain ⟨u, hu⟩ : ∃ u, u = w.alloc (.cells #[.int .u64 ((v.getD 0 0 : Nat) : Int), .int .u64 ((v.getD 1 0 : Nat) : Int), .int .u64 ((v.getD 2 0 : Nat) : Int), .int .u64 ((v.getD 3 0 : Nat) : Int), .int .u64 ((v.getD 4 0 : Nat) : Int), .int .u64 ((v.getD 5 0 : Nat) : Int), .int .u64 ((v.getD 6 0 : Nat) : Int), .int .u64 ((v.getD 7 0 : Nat) : Int)] 25) := ⟨_, rfl⟩
  rw [← hu] at hO1 hR
  have hsz : u.heap.size = w.heap.size + 1 := by rw [hu]; simp
  have HU := Lib.hid hu; have HO1 := Lib.hid hO1
  have HRD : Hid (Calls Tryd.prog 47 #[.int .i64 f, .int .u64 (x : Int)] u fun e w' => e = .returned (.int .u64 ((redF f x : Nat) : Int)) ∧ Drawn u w') := rreduce_any f x u hx
  unfold arrV
  by_cases h0 : redF f x = 0
  · have e : atF f x v z = 0 := by
      unfold atF shB
      rw [if_neg (by simp [h0])]
    rw [e]
    have HRD : Hid (Calls Tryd.prog 47 #[.int .i64 f, .int .u64 (x : Int)] u fun e w' => e = .returned (.int .u64 0) ∧ Drawn u w') := by have h := HRD.out; rw [h0] at h; exact h
    clear h0 e hT hl hb hR hu hsz hO1
    generalize v.getD 0 0 = v0 at *
    generalize v.getD 1 0 = v1 at *
    generalize v.getD 2 0 = v2 at *
    generalize v.getD 3 0 = v3 at *
    generalize v.getD 4 0 = v4 at *
    generalize v.getD 5 0 = v5 at *
    generalize v.getD 6 0 = v6 at *
    generalize v.getD 7 0 = v7 at *
    go_enter Tryd.func15, Tryd.ntmps15
    go_wp2_with fail
    rw [← HU.out]
    go_wp2_with (go_at_call 47; (with_reducible refine HRD.out.mono ?_); rintro e w' ⟨rfl, q, rfl⟩)
    go_ret
    exact ⟨rfl, HO1.out.drewN q⟩
  · have hv : validB f = true := by
      cases hv : validB f
      · exfalso
        apply h0
        unfold redF
        have : pOf f = 0 := by
          rcases Nat.eq_zero_or_pos (pOf f) with h | h
          · exact h
          · have := (valid_iff f).2 h; rw [hv] at this; simp at this
        rw [if_pos this]
      · rfl
    have hp := (valid_iff f).1 hv
    have hsh : shB f x = true := by unfold shB; rw [hv, Bool.true_and, decide_eq_true_eq]; exact h0
    have hs : x % pOf f ≠ 0 := by rw [redF_pos _ _ hp] at h0; exact h0
    have hptb : ∀ y ∈ ptL f 3 x, y ≤ 18446744073709551615 := fun y hy => by have := ptL_le f 3 x y hy; omega
    obtain ⟨hok, hev⟩ := at_thru hv x hs v hl hptb hb
    have hat : evF f (thruL f (ptsL (ptL f 3 x) v hptb hb)) z = atF f x v z := by rw [hev z, at_yes9 f x z v hsh]
    have HTH : Hid (∀ (a b : Value) w', On u w' → Reads w' a (ptL f 3 x) → Reads w' b v → Calls Tryd.prog 50 #[.int .i64 f, a, b] w' fun e w'' => ∃ r, e = .returned (.tuple #[r, .int .i64 0]) ∧ Hid (Reads w'' r (thruL f (ptsL (ptL f 3 x) v hptb hb))) ∧ On w' w'') := fun a b w' h hRa hRb => by
      refine (rthrough_any f (ptL f 3 x) v a b w' h.tab hv hRa hRb (by rw [hl, ptL_len]) (by rw [ptL_len]; decide) hptb hb).mono ?_
      rintro e w'' ⟨⟨-, r, rfl, hr⟩ | ⟨hno, -⟩, hO⟩
      · exact ⟨r, rfl, hr, hO⟩
      · exact absurd hok hno
    have HEV : Hid (∀ (r : Value) w', Reads w' r (thruL f (ptsL (ptL f 3 x) v hptb hb)) → Calls Tryd.prog 51 #[.int .i64 f, r, .int .u64 (z : Int)] w' fun e w'' => e = .returned (.int .u64 ((atF f x v z : Nat) : Int)) ∧ Drawn w' w'') := fun r w' hR => by
      have h := reval_any f (thruL f (ptsL (ptL f 3 x) v hptb hb)) z r w' hR hz
      rw [hat] at h
      exact h
    generalize thruL f (ptsL (ptL f 3 x) v hptb hb) = TL at *
    have hrle : rootF f 3 ≤ 998244353 := rootF_le f 3
    have HRT : Hid (∀ w', Calls Tryd.prog 48 #[.int .i64 f, .int .i64 3] w' fun e w'' => e = .returned (.int .u64 ((rootF f 3 : Nat) : Int)) ∧ Drawn w' w'') := fun w' => rroot_any f 3 w'
    have HPW : Hid (∀ (j : Nat) w', j < 8 → Calls Tryd.prog 45 #[.int .i64 f, .int .u64 ((rootF f 3 : Nat) : Int), .int .u64 (j : Int)] w' fun e w'' => e = .returned (.int .u64 ((powF f (rootF f 3) j : Nat) : Int)) ∧ Drawn w' w'') := fun j w' hj => rpow_any f (rootF f 3) (by omega) 4 j w' (by omega) (by omega)
    have HML : Hid (∀ (j : Nat) w', Calls Tryd.prog 49 #[.int .i64 f, .int .u64 (x : Int), .int .u64 ((powF f (rootF f 3) j : Nat) : Int)] w' fun e w'' => e = .returned (.int .u64 ((ptF f 3 x j : Nat) : Int)) ∧ Drawn w' w'') := fun j w' => rmul_any f x (powF f (rootF f 3) j) w' hx (by have := powF_le f (rootF f 3) j; omega)
    have HTX : Hid (∀ j, j < 8 → (ptL f 3 x).take (j + 1) = (ptL f 3 x).take j ++ [ptF f 3 x j]) := fun j hj => by rw [take_snoc _ j (by rw [ptL_len]; exact hj), ptL_getD _ _ _ _ hj]
    have HTV : Hid (∀ j, j < 8 → v.take (j + 1) = v.take j ++ [v.getD j 0]) := fun j hj => take_snoc _ j (by rw [hl]; exact hj)
    have HXL : Hid ((ptL f 3 x).length = 8) := ptL_len f 3 x
    have HVL := Lib.hid hl
    have HXB := Lib.hid hptb; have HVB := Lib.hid hb
    have HR := Lib.hid hR
    have hrf : ((redF f x : Nat) : Int) = 0 ↔ False := by constructor; intro h; omega; intro h; exact h.elim
    have hrb : (((redF f x : Nat) : Int) == 0) = false := by simp; exact h0
    generalize atF f x v z = y at *
    generalize ptL f 3 x = XL at *
    generalize redF f x = r at *
    generalize rootF f 3 = h at *
    have HVC : Hid (∀ j, j < 8 → ∀ w', On u w' → w'.cell? ⟨w.heap.size, j, none⟩ = some (.int .u64 ((v.getD j 0 : Nat) : Int))) := fun j hj w' hO => by
      obtain ⟨b, o, e1, e2⟩ := (reads_opt (hl ▸ hR.on hO)).2 j (by rw [hl]; exact hj)
      simp only [Option.some.injEq, Addr.mk.injEq] at e1
      obtain ⟨rfl, rfl, -⟩ := e1
      rw [Nat.zero_add] at e2
      exact e2
    clear hT hl hb hR hu hsz hO1 hs hp hptb hok hev hat hsh hv h0 hrf
    generalize v.getD 0 0 = v0 at *
    generalize v.getD 1 0 = v1 at *
    generalize v.getD 2 0 = v2 at *
    generalize v.getD 3 0 = v3 at *
    generalize v.getD 4 0 = v4 at *
    generalize v.getD 5 0 = v5 at *
    generalize v.getD 6 0 = v6 at *
    generalize v.getD 7 0 = v7 at *
    go_enter Tryd.func15, Tryd.ntmps15
    go_wp2_with fail
    rw [← HU.out]
    go_wp2_with (first
      | (go_at_call 47; (with_reducible refine HRD.out.mono ?_); rintro e w' ⟨rfl, q, rfl⟩)
      | (go_at_call 48; (with_reducible refine (HRT.out _).mono ?_); rintro e w' ⟨rfl, q2, rfl⟩)
      | fail)
    have HOq : Hid (On u (u.drewN (q + q2))) := (On.refl HO1.out.tab).drewN (q + q2)
    have HTS : Hid (Two u.heap.size u (u.drewN (q + q2)) (.slice none 0 0) (.slice none 0 0) [] []) := (Two.start HO1.out.tab).drewN (q + q2)
    generalize u.drewN (q + q2) = wa at *
    go_loopw [10, 11, 12] (fun va vb vj wr => ∃ (j : Nat) (aa ab : Option Addr) (ca cb : Nat), j ≤ 8 ∧ vj = .int .i64 (j : Int) ∧ va = .slice aa j ca ∧ vb = .slice ab j cb ∧ Hid (Two u.heap.size u wr (.slice aa j ca) (.slice ab j cb) (XL.take j) (v.take j))) (fun _ _ vj _ => 8 - (intOf vj).toNat)
    case atStart => exact ⟨0, none, none, 0, 0, by omega, rfl, rfl, rfl, by unfold Hid; rw [List.take_zero, List.take_zero]; exact HTS.out⟩
    case round =>
      rename World => wr
      obtain ⟨j, aa, ab, ca, cb, hj, rfl, rfl, rfl, HS⟩ := hrel
      by_cases hlt : j < 8
      · have hwj : IntKind.u64.wrap (j : Int) = (j : Int) := IntWalk.u64_in _ (by omega)
        have HP := Lib.hid (fun w' => HPW.out j w' hlt)
        have HM := Lib.hid (fun w' => HML.out j w')
        have htx := HTX.out j hlt
        have htv := HTV.out j hlt
        generalize powF f h j = pj at *
        generalize ptF f 3 x j = xj at *
        go_wp2_with fail
        with_reducible refine (HP.out _).mono ?_
        rintro e w1 ⟨rfl, q3, rfl⟩
        go_wp2_with fail
        with_reducible refine (HM.out _).mono ?_
        rintro e w2 ⟨rfl, q4, rfl⟩
        have HS2 := Lib.hid ((HS.out.drewN q3).drewN q4)
        generalize (wr.drewN q3).drewN q4 = w3 at *
        have hlx : (XL.take j).length = j := by rw [List.length_take, HXL.out]; omega
        have hlv : (v.take j).length = j := by rw [List.length_take, HVL.out]; omega
        obtain ⟨a2, c2, w4, hr2, ht2, -⟩ := (HS2.out.alloc (.cells #[.int .u64 (xj : Int)] 22)).appX xj w3.heap.size (World.cell?_alloc_at _ _ _ _ rfl) hlx (by omega)
        rw [← htx] at ht2
        have hc := HVC.out j hlt w4 ht2.1
        generalize v.getD j 0 = vj at *
        obtain ⟨a3, c3, w5, hr3, ht3⟩ := (ht2.alloc (.cells #[.int .u64 (vj : Int)] 22)).appY vj w4.heap.size (World.cell?_alloc_at _ _ _ _ rfl) hlv (by omega)
        rw [← htv] at ht3
        have HR2 := Lib.hid hr2; have HR3 := Lib.hid hr3; have HT3 := Lib.hid ht3
        clear hr2 hr3 ht2 ht3 htx htv hlx hlv HS2 HS HP HM
        go_wp2_with (at_builtin; first | (refine wp_append2 rfl (.tmp 25) (.tmp 34) _ _ rfl _ _ (.slice a2 (j + 1) c2) rfl rfl HR2.out ?_) | (refine wp_append2 rfl (.tmp 36) (.tmp 40) _ _ rfl _ _ (.slice a3 (j + 1) c3) rfl rfl HR3.out ?_))
        go_roundw
        case rel => exact ⟨j + 1, a2, a3, c2, c3, by omega, by go_num, rfl, rfl, HT3⟩
        case measure => simp [intOf]; omega
      · obtain rfl : j = 8 := by omega
        obtain ⟨hOn, -, -, hox, hoy, -⟩ := HS.out
        rw [List.take_of_length_le (by rw [HXL.out]; exact Nat.le_refl _)] at hox
        rw [List.take_of_length_le (by rw [HVL.out]; exact Nat.le_refl _)] at hoy
        have HRX := Lib.hid (hox.reads HXB.out); have HRY := Lib.hid (hoy.reads HVB.out); have HON := Lib.hid hOn
        clear hOn hox hoy HS
        go_wp2_with fail
        refine (HTH.out _ _ _ HON.out HRX.out HRY.out).mono ?_
        rintro e w3 ⟨r3, rfl, hr3, hO3⟩
        have HON := Lib.hid (HON.out.trans hO3)
        clear hO3
        go_wp2_with fail
        with_reducible refine (HEV.out _ _ hr3.out).mono ?_
        rintro e w4 ⟨rfl, q5, rfl⟩
        go_wp2
        go_ret
        exact ⟨rfl, (HO1.out.trans HON.out).drewN q5⟩
end Go.Proofs.YtiibcfajcndcnaaDoor
