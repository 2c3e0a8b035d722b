/- Lists of limbs that a call makes, and the calls of package ratio that make one: copied, sum, diff, product, shifted. -/
import Derived.Test.YtdgmlmcllkgemaaKz03
import Derived.Laws.IdiomCopy
import Derived.Laws.MakeOwn
import Derived.OwnWalk
import Derived.Deep.RegionWith
set_option linter.unusedSimpArgs false
set_option linter.unusedVariables false
/- Lists of limbs that a call makes, and the calls of package ratio that make one: copied, sum, diff, product, shifted. -/
namespace Go.Proofs.Ytdgmlmcllkgemaa
open Go.RowKit
set_option linter.unusedVariables false

/-- w is W with new memory. -/
def On (W w : World) : Prop := Below W.heap.size W w
theorem On.refl (W : World) : On W W := Below.refl _ _
theorem On.trans {W w w' : World} (h : On W w) (k : On w w') : On W w' := Below.trans h (Below.mono k h.size)
theorem On.alloc {W w : World} (h : On W w) (o : Obj) : On W (w.alloc o) := Below.alloc h h.size o
theorem On.drew {W w : World} (h : On W w) : On W w.drew := Below.drew h
theorem On.drewN {W w : World} (h : On W w) (n : Nat) : On W (w.drewN n) := Below.trans h ⟨rfl, rfl, rfl, Nat.le_refl _, fun _ _ => rfl⟩
theorem On.setCell {W w : World} (h : On W w) {p : Addr} (hp : W.heap.size ≤ p.block) (u : Value) : On W (w.setCell p u) := Below.setCell h hp u
theorem On.size {W w : World} (h : On W w) : W.heap.size ≤ w.heap.size := Below.size h
theorem On.ap {W w w' : World} {B : Nat} (h : On W w) (hB : W.heap.size ≤ B) (k : Ap B w w') : On W w' := Below.trans h (k.below hB)
theorem Lv.on {w w' : World} {v : Value} {m : Nat} {X : Int} (h : Lv w v m X) (k : On w w') : Lv w' v m X := h.below k
theorem Nv.on {w w' : World} {v : Value} {n : Nat} (h : Nv w v n) (k : On w w') : Nv w' v n := h.below k
theorem Rd.on {w w' : World} {oa : Option Addr} {m : Nat} {X : Int} (h : Rd w oa m X) (k : On w w') : Rd w' oa m X := h.below k
theorem Rd.old {w : World} {oa : Option Addr} {m : Nat} {X : Int} (h : Rd w oa m X) {B : Nat} (hB : w.heap.size ≤ B) : ∀ b o, oa = some ⟨b, o, none⟩ → 0 < m → b ≠ B := by
  intro b o he h0 hb
  obtain ⟨b', off, h1, h2⟩ := h 0 h0
  rw [he] at h1
  simp only [Option.some.injEq, Addr.mk.injEq] at h1
  have := cell_size h2
  obtain ⟨rfl, rfl, -⟩ := h1
  simp at this
  omega

theorem info_u32 : (Try.prog.info? 54).map (fun i => (i.zero, i.size, i.bytes)) = some (some (.int .u32 0), 1, 4) := by kernel_rfl
theorem size_u32 : (Try.prog.info? 54).map (·.size) = some 1 := by kernel_rfl
theorem make_run (n : Nat) (hn : n ≤ 35184372088832) (w : World) :
    (Instr.makeSlice 23 (.int .i64 (n : Int)) (.int .i64 (n : Int))).run Try.prog w = .ok (.slice (some ⟨w.heap.size, 0, none⟩) n n) (w.alloc (.cells (madeCells #[.int .u32 0] n) 54)) := by
  obtain ⟨i0, hi, hz0, hz1, hz2⟩ := info_parts info_u32
  have h := run_make (P := Try.prog) w 23 54 i0 (.int .u32 0) Try.underlying23 hi hz0 .i64 .i64 (n : Int) (n : Int) (by omega) (Int.le_refl _) (by rw [hz2]; omega) (by omega)
  rw [hz1] at h
  simpa [Value.cells] using h
theorem make_run1 (n : Nat) (hn : n ≤ 35184372088831) (w : World) :
    (Instr.makeSlice 23 (.int .i64 ((n : Int) + 1)) (.int .i64 ((n : Int) + 1))).run Try.prog w = .ok (.slice (some ⟨w.heap.size, 0, none⟩) (n + 1) (n + 1)) (w.alloc (.cells (madeCells #[.int .u32 0] (n + 1)) 54)) :=
  make_run (n + 1) (by omega) w
theorem made_cell (w : World) (n k : Nat) (hk : k < n) : (w.alloc (.cells (madeCells #[.int .u32 0] n) 54)).cell? ⟨w.heap.size, 0 + k, none⟩ = some (.int .u32 ((dg ((0 : Nat) : Int) k : Nat) : Int)) := by
  have h0 : dg ((0 : Nat) : Int) k = 0 := dg_zero (pw_pos k)
  rw [h0, Nat.zero_add, World.cell?_alloc_new]
  have hl : (madeCells #[.int .u32 0] n).toList = List.replicate n (Value.int .u32 0) := toList_madeCells_one _ _
  have : (madeCells #[.int .u32 0] n).toList[k]? = some (Value.int .u32 0) := by rw [hl]; simp [hk]
  simpa using this
theorem made_free (w : World) (n k : Nat) : (w.alloc (.cells (madeCells #[.int .u32 0] n) 54)).frozen? ⟨w.heap.size, k, none⟩ = false := World.frozen?_alloc_new ..

/-- The cells of a list of limbs. -/
def limbVals (X : Int) (t : Nat) : List Value := (List.range t).map fun k => .int .u32 ((dg X k : Nat) : Int)
theorem limbVals_get (X : Int) (t k : Nat) (hk : k < t) : (limbVals X t)[k]? = some (.int .u32 ((dg X k : Nat) : Int)) := by
  unfold limbVals; rw [List.getElem?_map, List.getElem?_range hk]; rfl
theorem limbVals_len (X : Int) (t : Nat) : (limbVals X t).length = t := by unfold limbVals; simp
theorem Ap.setCells (B : Nat) : ∀ (vs : List Value) (o : Nat) (w : World), Ap B w (w.setCells B o vs) := by
  intro vs
  induction vs with
  | nil => intro o w; exact Ap.refl _ _
  | cons v vs ih => intro o w; exact ((Ap.refl B w).setCell o v).trans (ih (o + 1) _)
/-- What copy does to a list of zeros of the call's own. -/
theorem copy_run (w : World) (B m cap t cap' y : Nat) (oa : Option Addr) (hc : ∀ k, k < m → w.cell? ⟨B, 0 + k, none⟩ = some (.int .u32 ((dg ((0 : Nat) : Int) k : Nat) : Int))) (hf : ∀ k, w.frozen? ⟨B, k, none⟩ = false) (hR : Rd w oa t (y : Int)) (ht : t ≤ m) (hy : y < 4294967296 ^ t) :
    ∃ w', (∀ ty, (Builtin.copy_ #[23, 23] ty #[.slice (some ⟨B, 0, none⟩) m cap, .slice oa t cap']).run Try.prog w = .ok (goInt t) w') ∧ Win B 0 m (y : Int) w w' := by
  have hz : ∀ k, t ≤ k → dg (y : Int) k = 0 := fun k hk => dg_zero (Nat.lt_of_lt_of_le hy (Nat.pow_le_pow_right (by decide) hk))
  rcases Nat.eq_zero_or_pos t with h0 | h0
  · subst h0
    refine ⟨w, fun ty => run_copy_none w _ _ ty 54 _ oa m cap 0 cap' Try.underlying23 size_u32 (Nat.zero_min _), fun k hk => ?_, fun _ _ => rfl, hf, Ap.refl _ _⟩
    rw [hc k hk, hz k (Nat.zero_le _), dg_zero (pw_pos k)]
  · obtain ⟨b, off, rfl, _⟩ := hR 0 h0
    have hR' : ∀ k, k < t → w.cell? ⟨b, off + k, none⟩ = some (.int .u32 ((dg (y : Int) k : Nat) : Int)) := fun k hk => by
      obtain ⟨b', off', h1, h2⟩ := hR k hk
      simp only [Option.some.injEq, Addr.mk.injEq] at h1
      obtain ⟨rfl, rfl, -⟩ := h1
      exact h2
    refine ⟨w.setCells B 0 (limbVals (y : Int) t), fun ty => ?_, fun k hk => ?_, fun k hk => ?_, fun k => ?_, Ap.setCells _ _ _ _⟩
    · have h := run_copy_cells (P := Try.prog) w 23 23 ty 54 B 0 m cap ⟨b, off, none⟩ t cap' (limbVals (y : Int) t) Try.underlying23 size_u32 (by rw [limbVals_len]; exact (Nat.min_eq_left ht).symm)
        (fun j v hj => by
          have hj' : j < t := by have := (List.getElem?_eq_some_iff.1 hj).1; rwa [limbVals_len] at this
          rw [limbVals_get _ _ _ hj'] at hj
          rw [← hj]
          have := hR' j hj'
          rw [show (⟨b, off, none⟩ : Addr).add j = ⟨b, off + j, none⟩ by unfold Addr.add; split <;> simp_all]; exact this)
        (fun j hj => by rw [limbVals_len] at hj; rw [hc j (by omega)]; rfl)
        (fun j hj => hf _)
        (fun v hv => by unfold limbVals at hv; obtain ⟨z, _, rfl⟩ := List.mem_map.1 hv; rfl)
      rw [limbVals_len] at h
      exact h
    · by_cases hkt : k < t
      · have h := World.cell?_setCells_in B (limbVals (y : Int) t) 0 w (fun j hj => by rw [limbVals_len] at hj; rw [hc j (by omega)]; rfl) k (by rw [limbVals_len]; exact hkt)
        rw [h, ← List.getElem?_eq_getElem, limbVals_get _ _ _ hkt]
      · rw [World.cell?_setCells_out B _ 0 w _ (fun _ _ => Or.inr (by rw [limbVals_len]; simp; omega)), hc k hk, hz k (by omega), dg_zero (pw_pos k)]
    · rw [World.cell?_setCells_out B _ 0 w _ (fun _ _ => Or.inr (by rw [limbVals_len]; simp; omega))]
    · rw [World.frozen?_setCells]; exact hf k
/-- A list that a call has made, as a value. -/
theorem Win.lv {B m cap : Nat} {X : Int} {w w' : World} (h : Win B 0 m X w w') (hm : m ≤ cap) (hcap : cap ≤ 9223372036854775807) : Lv w' (.slice (some ⟨B, 0, none⟩) m cap) m X :=
  ⟨_, _, rfl, hm, hcap, fun k hk => ⟨B, 0, rfl, h.cells k hk⟩⟩

/-- trim, of a list given by what it reads. -/
theorem trim_lv (v : Value) (m x : Nat) (w : World) (h : Lv w v m (x : Int)) (hx : x < 4294967296 ^ m) :
    Calls Try.prog 73 #[v] w fun e w' => (∃ v', e = .returned v' ∧ Nv w v' x) ∧ w = w' := by
  obtain ⟨oa, cap, rfl, h1, h2, h3⟩ := h
  exact (trim_any oa m cap x w h1 h2 h3 hx).mono fun e w' ⟨⟨v, h5, h6, _⟩, h7⟩ => ⟨⟨v, h5, h6⟩, h7⟩
/-- A slice that begins at its block's first cell, or nil. -/
def Z0 (v : Value) : Prop := v = .slice none 0 0 ∨ ∃ b n c, v = .slice (some ⟨b, 0, none⟩) n c
theorem trim_z (b cap m x : Nat) (w : World) (h : Lv w (.slice (some ⟨b, 0, none⟩) m cap) m (x : Int)) (hx : x < 4294967296 ^ m) :
    Calls Try.prog 73 #[.slice (some ⟨b, 0, none⟩) m cap] w fun e w' => (∃ v', e = .returned v' ∧ Nv w v' x ∧ Z0 v') ∧ w = w' := by
  obtain ⟨oa, cap', he, h1, h2, h3⟩ := h
  simp only [Value.slice.injEq, true_and] at he
  obtain ⟨rfl, rfl⟩ := he
  exact (trim_any _ m cap x w h1 h2 h3 hx).mono fun e w' ⟨⟨v, h5, h6, h8⟩, h7⟩ => ⟨⟨v, h5, h6, h8.imp id fun ⟨n, hn⟩ => ⟨b, n, n, hn⟩⟩, h7⟩

theorem copied_any (v : Value) (m x : Nat) (w : World) (h : Lv w v m (x : Int)) (hx : x < 4294967296 ^ m) (hb : m ≤ 10000000) :
    Calls Try.prog 81 #[v] w fun e w' => ∃ v', e = .returned v' ∧ Nv w' v' x ∧ On w w' ∧ (0 < x → v' = .slice (some ⟨w.heap.size, 0, none⟩) (nl x) (nl x) ∧ ∀ k, w'.frozen? ⟨w.heap.size, k, none⟩ = false) ∧ (x = 0 → v' = .slice none 0 0) := by
  have HX := Lib.hid hx; clear hx
  have HV := Lib.hid h; clear h
  rcases Nat.eq_zero_or_pos x with h0 | h0
  · subst h0
    have HN := Lib.hid (Nv.nil w)
    go_enter Try.func81, Try.ntmps81
    go_wp2_with (go_at_call 73; refine (trim_lv _ m 0 _ HV.out HX.out).mono ?_; rintro e w' ⟨⟨v', rfl, hv'⟩, rfl⟩; obtain ⟨oa, cap, rfl, -, -, -⟩ := hv'; rw [nl_zero])
    go_ret
    exact ⟨_, rfl, HN.out, On.refl _, fun h => by omega, fun _ => rfl⟩
  · have hn0 := nl_pos h0
    have hnm : nl x ≤ m := (nl_le _ _).2 HX.out
    go_enter Try.func81, Try.ntmps81
    go_wp2_with (go_at_call 73; refine (trim_lv _ m x _ HV.out HX.out).mono ?_; rintro e w' ⟨⟨v', rfl, hv'⟩, rfl⟩; obtain ⟨oa, cap, rfl, hcp, hcq, hR⟩ := hv'; have hmk := make_run (nl x) (by omega) w; obtain ⟨w1, hcopy, hwin⟩ := copy_run (w.alloc (.cells (madeCells #[.int .u32 0] (nl x)) 54)) w.heap.size (nl x) (nl x) (nl x) cap x oa (fun k hk => made_cell w _ k hk) (fun k => made_free w _ k) (hR.on ((On.refl w).alloc _)) (Nat.le_refl _) (lt_nl x); have HW := Lib.hid hwin; clear hwin hR)
    go_ret
    exact ⟨_, rfl, HW.out.lv (Nat.le_refl _) (by omega), ((On.refl w).alloc _).ap (Nat.le_refl _) HW.out.ap, fun _ => ⟨rfl, HW.out.free⟩, fun h => by omega⟩

theorem max_bound {x y m : Nat} (hx : nl x ≤ m) (hy : nl y ≤ m) : x + 1 * y < 4294967296 ^ (m + 1) := by
  have h1 := (nl_le _ _).1 hx
  have h2 := (nl_le _ _).1 hy
  rw [Nat.pow_succ]; omega

theorem sum_any (va vb : Value) (x y : Nat) (w : World) (ha : Nv w va x) (hb : Nv w vb y) (hx : nl x ≤ 1000000) (hy : nl y ≤ 1000000) :
    Calls Try.prog 60 #[va, vb] w fun e w' => ∃ v, e = .returned v ∧ Nv w' v (x + y) ∧ On w w' := by
  obtain ⟨oa, ca, rfl, h1, h2, hR⟩ := ha
  obtain ⟨ob, cb, rfl, h3, h4, hS⟩ := hb
  have main : ∀ m : Nat, (m = nl x ∧ nl y ≤ nl x) ∨ (m = nl y ∧ nl x < nl y) → Calls Try.prog 60 #[.slice oa (nl x) ca, .slice ob (nl y) cb] w fun e w' => ∃ v, e = .returned v ∧ Nv w' v (x + y) ∧ On w w' := by
    intro m hm
    have hxm : nl x ≤ m := by omega
    have hym : nl y ≤ m := by omega
    have hmk := make_run1 m (by omega) w
    obtain ⟨w1, hcopy, hwin⟩ := copy_run (w.alloc (.cells (madeCells #[.int .u32 0] (m + 1)) 54)) w.heap.size (m + 1) (m + 1) (nl x) ca x oa (fun k hk => made_cell w _ k hk) (fun k => made_free w _ k) (hR.on ((On.refl w).alloc _)) (by omega) (lt_nl x)
    have hS1 := Lib.hid ((hS.on ((On.refl w).alloc _)).ap hwin.ap (hS.old (Nat.le_refl _)))
    have HO := Lib.hid (hS.old (Nat.le_refl _))
    have HW := Lib.hid hwin
    have HB := Lib.hid (max_bound hxm hym)
    have HX : Hid (x < 4294967296 ^ (m + 1)) := (nl_le _ _).1 (by omega)
    clear hR hS hwin
    rcases hm with ⟨rfl, hm⟩ | ⟨rfl, hm⟩
    all_goals
      generalize hxe : nl x = a at *
      generalize hye : nl y = b at *
      have HXE := Lib.hid hxe
      have HYE := Lib.hid hye
      clear hxe hye
      go_enter Try.func60, Try.ntmps60
      go_wp2_with (first
        | (go_at_call 86; refine (putOn_any w.heap.size 0 _ _ b cb x y 1 ob w1 (Nat.le_refl _) (by omega) HW.out.cells HW.out.free hS1.out HO.out (by omega) (HYE.out ▸ lt_nl y) HX.out (by omega)).mono ?_; rintro e w2 ⟨rfl, hw2⟩; have H2 := Lib.hid hw2; clear hw2)
        | (go_at_call 73; refine (trim_lv _ _ (x + 1 * y) _ (H2.out.lv (Nat.le_refl _) (by omega)) HB.out).mono ?_; rintro e w3 ⟨⟨v', rfl, hv'⟩, rfl⟩; have HV := Lib.hid hv'; clear hv'))
      go_ret
      exact ⟨_, rfl, by rw [Nat.one_mul] at HV; exact HV.out, (((On.refl w).alloc _).ap (Nat.le_refl _) HW.out.ap).ap (Nat.le_refl _) H2.out.ap⟩
  rcases Nat.lt_or_ge (nl x) (nl y) with h | h
  · exact main _ (.inr ⟨rfl, h⟩)
  · exact main _ (.inl ⟨rfl, h⟩)
end Go.Proofs.Ytdgmlmcllkgemaa

/- diff, shifted and product of package ratio. -/
namespace Go.Proofs.Ytdgmlmcllkgemaa
open Go.RowKit
set_option linter.unusedVariables false

theorem takeOff_nil (y : Nat) (ob : Option Addr) (cb : Nat) (w : World) :
    Calls Try.prog 88 #[.slice none 0 0, .slice ob 0 cb, .int .u64 1] w fun e w' => e = .returned (.bool false) ∧ w' = w := by
  go_enter Try.func88, Try.ntmps88
  go_wp2
  refine wp_loop_rounds 1 ?_
  rw [rounds_succ]
  go_wp2
  go_ret
  exact ⟨rfl, rfl⟩
theorem diff_any (va vb : Value) (x y : Nat) (w : World) (ha : Nv w va x) (hb : Nv w vb y) (hyx : y ≤ x) (hx : nl x ≤ 1000000) :
    Calls Try.prog 63 #[va, vb] w fun e w' => ∃ v, e = .returned v ∧ Nv w' v (x - y) ∧ On w w' := by
  obtain ⟨ob, cb, rfl, h3, h4, hS⟩ := hb
  have HA := Lib.hid ha; clear ha
  have HS := Lib.hid hS; clear hS
  have HO := Lib.hid (HS.out.old (Nat.le_refl _))
  rcases Nat.eq_zero_or_pos x with h0 | h0
  · subst h0
    obtain rfl : y = 0 := by omega
    rw [nl_zero] at h3 ⊢
    go_enter Try.func63, Try.ntmps63
    go_wp2_with (first
      | (go_at_call 81; refine (copied_any va (nl 0) 0 _ HA.out (lt_nl 0) (by rw [nl_zero]; omega)).mono ?_; rintro e w1 ⟨v, rfl, hv, hOn, -, hnil⟩; obtain rfl := hnil rfl; clear hnil; have HOn := Lib.hid hOn; clear hOn hv)
      | (go_at_call 88; refine (takeOff_nil 0 _ _ _).mono ?_; rintro e w2 ⟨rfl, rfl⟩)
      | (go_at_call 73; refine (trim_lv (.slice none 0 0) (nl 0) 0 _ (Nv.nil _) (lt_nl 0)).mono ?_; rintro e w3 ⟨⟨v', rfl, hv'⟩, rfl⟩; have HV := Lib.hid hv'; clear hv'))
    go_ret
    exact ⟨_, rfl, HV.out, HOn.out⟩
  · have hle : nl y ≤ nl x := nl_mono hyx
    have HLT : Hid ((x : Int) - ((1 * y : Nat) : Int) = ((x - y : Nat) : Int)) := by unfold Hid; omega
    have HLX : Hid (x - y < 4294967296 ^ nl x) := Nat.lt_of_le_of_lt (Nat.sub_le _ _) (lt_nl x)
    clear hyx
    go_enter Try.func63, Try.ntmps63
    go_wp2_with (first
      | (go_at_call 81; refine (copied_any va (nl x) x _ HA.out (lt_nl x) (by omega)).mono ?_; rintro e w1 ⟨v, rfl, hv, hOn, hbl, -⟩; obtain ⟨rfl, hf⟩ := hbl h0; have HOn := Lib.hid hOn; have HF := Lib.hid hf; have HV1 := Lib.hid hv; clear hOn hv hf hbl)
      | (go_at_call 88; refine (takeOff_any w.heap.size 0 (nl x) (nl x) (nl y) cb x y 1 ob w1 (Nat.le_refl _) (by omega) (Nv.cells HV1.out) HF.out (HS.out.on HOn.out) HO.out hle (lt_nl y) (lt_nl x) (by omega)).mono ?_; rintro e w2 ⟨rfl, hw2⟩; rw [HLT.out] at hw2; have H2 := Lib.hid hw2; clear hw2)
      | (go_at_call 73; refine (trim_lv _ (nl x) (x - y) _ (H2.out.lv (Nat.le_refl _) (by omega)) HLX.out).mono ?_; rintro e w3 ⟨⟨v', rfl, hv'⟩, rfl⟩; have HV := Lib.hid hv'; clear hv'))
    go_ret
    exact ⟨_, rfl, HV.out, HOn.out.ap (Nat.le_refl _) H2.out.ap⟩

/-- shifted: one limb more than the list has, in memory of the call's own. -/
theorem shifted_any (va : Value) (x s : Nat) (w : World) (ha : Nv w va x) (hs : s < 32) (hx : nl x ≤ 1000000) :
    Calls Try.prog 83 #[va, .int .i64 (s : Int)] w fun e w' => e = .returned (.slice (some ⟨w.heap.size, 0, none⟩) (nl x + 1) (nl x + 1)) ∧ (∀ k, k < nl x + 1 → w'.cell? ⟨w.heap.size, 0 + k, none⟩ = some (.int .u32 ((dg ((x * 2 ^ s : Nat) : Int) k : Nat) : Int))) ∧ (∀ k, w'.frozen? ⟨w.heap.size, k, none⟩ = false) ∧ w'.heap.size = w.heap.size + 1 ∧ On w w' := by
  obtain ⟨oa, ca, rfl, h1, h2, hR⟩ := ha
  have hmk := make_run1 (nl x) (by omega) w
  have HR := Lib.hid ((hR.on ((On.refl w).alloc (.cells (madeCells #[.int .u32 0] (nl x + 1)) 54))))
  have HO := Lib.hid (hR.old (Nat.le_refl _))
  have hsh : (2 : Nat) ^ s ≤ 2147483648 := Nat.pow_le_pow_right (by decide) (show s ≤ 31 by omega)
  have HP : Hid (0 + 2 ^ s * x = x * 2 ^ s) := by unfold Hid; rw [Nat.mul_comm, Nat.zero_add]
  clear hR
  obtain ⟨p, hp⟩ : ∃ p : Nat, p = 2 ^ s := ⟨_, rfl⟩
  rw [← hp] at hsh HP
  have hpi : (2 : Int) ^ s = (p : Int) := by rw [hp, Int.natCast_pow]; rfl
  have HPE := Lib.hid hp; clear hp
  go_enter Try.func83, Try.ntmps83
  go_wp2_with (first
    | (go_at_call 86; refine (putOn_any w.heap.size 0 (nl x + 1) (nl x + 1) (nl x) ca 0 x p oa _ (Nat.le_refl _) (by omega) (fun k hk => made_cell w _ k hk) (fun k => made_free w _ k) HR.out HO.out (by omega) (lt_nl x) (pw_pos _) (by omega)).mono ?_; rintro e w2 ⟨rfl, hw2⟩; have H2 := Lib.hid hw2; clear hw2))
  go_ret
  have hp2 := HP.out
  rw [HPE.out] at hp2 H2
  rw [hp2] at H2
  exact ⟨rfl, H2.out.cells, H2.out.free, by rw [H2.out.ap.size]; simp, ((On.refl w).alloc _).ap (Nat.le_refl _) H2.out.ap⟩
end Go.Proofs.Ytdgmlmcllkgemaa

/- product of package ratio. -/
namespace Go.Proofs.Ytdgmlmcllkgemaa
open Go.RowKit
set_option linter.unusedVariables false

theorem Win.start {B m : Nat} {X : Int} {w : World} (hc : ∀ k, k < m → w.cell? ⟨B, 0 + k, none⟩ = some (.int .u32 ((dg X k : Nat) : Int))) (hf : ∀ k, w.frozen? ⟨B, k, none⟩ = false) : Win B 0 m X w w := ⟨hc, fun _ _ => rfl, hf, Ap.refl _ _⟩
/-- A part of a list is written: the whole list reads as another number. -/
theorem Win.part {B m off t : Nat} {X X' Y : Int} {w w1 w2 : World} (h : Win B 0 m X w w1) (k : Win B off t Y w1 w2) (hlo : ∀ i, i < off → dg X' i = dg X i) (hmid : ∀ i, i < t → dg X' (off + i) = dg Y i) (hhi : ∀ i, off + t ≤ i → i < m → dg X' i = dg X i) (hm : off + t ≤ m) : Win B 0 m X' w w2 := by
  refine ⟨fun i hi => ?_, fun i hi => ?_, k.free, h.ap.trans k.ap⟩
  · rw [Nat.zero_add]
    by_cases h1 : i < off
    · rw [k.rest i (.inl h1), hlo i h1]; have := h.cells i hi; rwa [Nat.zero_add] at this
    · by_cases h2 : i < off + t
      · obtain ⟨j, rfl⟩ : ∃ j, i = off + j := ⟨i - off, by omega⟩
        rw [hmid j (by omega)]; exact k.cells j (by omega)
      · rw [k.rest i (.inr (by omega)), hhi i (by omega) hi]; have := h.cells i hi; rwa [Nat.zero_add] at this
  · rw [k.rest i (by omega)]; exact h.rest i hi
theorem Win.sub {B m : Nat} {x : Nat} {w w1 : World} (h : Win B 0 m (x : Int) w w1) (off t : Nat) (hm : off + t ≤ m) : ∀ k, k < t → w1.cell? ⟨B, off + k, none⟩ = some (.int .u32 ((dg ((x / 4294967296 ^ off : Nat) : Int) k : Nat) : Int)) := by
  intro k hk
  have := h.cells (off + k) (by omega)
  rw [Nat.zero_add, dg_shift_nat] at this
  exact this

theorem prod_step {x y i la lb : Nat} (hy : y < 4294967296 ^ lb) (hi : i < la) :
    (x % 4294967296 ^ i) * y / 4294967296 ^ i < 4294967296 ^ (lb + 1) ∧
    (∀ k, k < i → dg (((x % 4294967296 ^ (i + 1)) * y : Nat) : Int) k = dg (((x % 4294967296 ^ i) * y : Nat) : Int) k) ∧
    (∀ k, dg (((x % 4294967296 ^ (i + 1)) * y : Nat) : Int) (i + k) = dg (((x % 4294967296 ^ i) * y / 4294967296 ^ i + dg (x : Int) i * y : Nat) : Int) k) ∧
    (∀ k, i + (lb + 1) ≤ k → dg (((x % 4294967296 ^ (i + 1)) * y : Nat) : Int) k = dg (((x % 4294967296 ^ i) * y : Nat) : Int) k) := by
  have e : (x % 4294967296 ^ (i + 1)) * y = (x % 4294967296 ^ i) * y + 4294967296 ^ i * (dg (x : Int) i * y) := by
    rw [nmod_succ, Nat.add_mul, Nat.mul_assoc]
  have hr : x % 4294967296 ^ i < 4294967296 ^ i := Nat.mod_lt _ (pw_pos _)
  have hR : (x % 4294967296 ^ i) * y / 4294967296 ^ i ≤ y := by
    rw [Nat.div_le_iff_le_mul_add_pred (pw_pos _)]
    have := Nat.mul_le_mul_right y (Nat.le_of_lt hr)
    omega
  refine ⟨by rw [Nat.pow_succ]; omega, fun k hk => ?_, fun k => ?_, fun k hk => ?_⟩
  · refine dg_congr (m := i) ?_ hk
    rw [← pw_cast, ← Int.natCast_emod, ← Int.natCast_emod, e, Nat.add_mul_mod_self_left]
  · rw [dg_shift_nat, e, Nat.add_mul_div_left _ _ (pw_pos _)]
  · have h1 : (x % 4294967296 ^ (i + 1)) * y < 4294967296 ^ k := by
      have h2 : x % 4294967296 ^ (i + 1) < 4294967296 ^ (i + 1) := Nat.mod_lt _ (pw_pos _)
      have h3 : (x % 4294967296 ^ (i + 1)) * y < 4294967296 ^ (i + 1) * 4294967296 ^ lb := Nat.mul_lt_mul_of_le_of_lt (Nat.le_of_lt h2) hy (pw_pos _)
      rw [← Nat.pow_add] at h3
      exact Nat.lt_of_lt_of_le h3 (Nat.pow_le_pow_right (by decide) (by omega))
    have h2 : (x % 4294967296 ^ i) * y < 4294967296 ^ k := by rw [e] at h1; omega
    rw [dg_zero h1, dg_zero h2]

set_option maxHeartbeats 1000000 in
theorem product_any (va vb : Value) (x y : Nat) (w : World) (ha : Nv w va x) (hb : Nv w vb y) (hx : nl x ≤ 1000000) (hy : nl y ≤ 1000000) :
    Calls Try.prog 65 #[va, vb] w fun e w' => ∃ v, e = .returned v ∧ Nv w' v (x * y) ∧ On w w' := by
  obtain ⟨oa, ca, rfl, h1, h2, hR⟩ := ha
  obtain ⟨ob, cb, rfl, h3, h4, hS⟩ := hb
  have hmk : (Instr.makeSlice 23 (.int .i64 ((nl x : Nat) + (nl y : Nat))) (.int .i64 ((nl x : Nat) + (nl y : Nat)))).run Try.prog w = .ok (.slice (some ⟨w.heap.size, 0, none⟩) (nl x + nl y) (nl x + nl y)) (w.alloc (.cells (madeCells #[.int .u32 0] (nl x + nl y)) 54)) := by
    have := make_run (nl x + nl y) (by omega) w
    rwa [Int.natCast_add] at this
  have hst : Hid (Win w.heap.size 0 (nl x + nl y) (((x % 4294967296 ^ 0) * y : Nat) : Int) (w.alloc (.cells (madeCells #[.int .u32 0] (nl x + nl y)) 54)) (w.alloc (.cells (madeCells #[.int .u32 0] (nl x + nl y)) 54))) := by
    rw [Nat.pow_zero, Nat.mod_one, Nat.zero_mul]
    exact Win.start (fun k hk => made_cell w _ k hk) (fun k => made_free w _ k)
  have hO1 : On w (w.alloc (.cells (madeCells #[.int .u32 0] (nl x + nl y)) 54)) := (On.refl w).alloc _
  obtain ⟨w1, hw1⟩ : ∃ w1, w1 = w.alloc (.cells (madeCells #[.int .u32 0] (nl x + nl y)) 54) := ⟨_, rfl⟩
  rw [← hw1] at hmk hst hO1
  have HW1 := Lib.hid hw1; clear hw1
  have HR := Lib.hid (hR.on hO1)
  have HS := Lib.hid (hS.on hO1)
  have HO := Lib.hid (hR.old (Nat.le_refl _))
  have HP := Lib.hid (hS.old (Nat.le_refl _))
  have HX := Lib.hid (lt_nl x)
  have HY := Lib.hid (lt_nl y)
  clear hR hS
  generalize hxe : nl x = la at *
  generalize hye : nl y = lb at *
  have HXE := Lib.hid hxe
  have HYE := Lib.hid hye
  clear hxe hye
  have HO1 := Lib.hid hO1; clear hO1
  go_enter Try.func65, Try.ntmps65
  go_hidden (go_wp2)
  go_loopw [16] (fun vi wr => ∃ i : Nat, i ≤ la ∧ vi = .int .i64 i ∧ Hid (Win w.heap.size 0 (la + lb) (((x % 4294967296 ^ i) * y : Nat) : Int) w1 wr)) (fun vi _ => la - (intOf vi).toNat)
  case atStart => exact ⟨0, Nat.zero_le _, rfl, hst⟩
  case round =>
    obtain ⟨i, hi, rfl, HW⟩ := hrel
    by_cases hlt : i < la
    · obtain ⟨b, off, rfl, hc⟩ := HR.out.ap HW.out.ap HO.out i hlt
      have hd := dg_lt (x : Int) i
      have HST := Lib.hid (prod_step (x := x) HY.out hlt)
      have HWC := Lib.hid (HW.out.sub i (lb + 1) (by omega))
      generalize hde : dg (x : Int) i = d at *
      have HDE := Lib.hid hde; clear hde
      go_wp2_with (go_at_call 86; rw [show i + lb + 1 - i = lb + 1 by omega]; refine (putOn_any w.heap.size i (lb + 1) (la + lb - i) lb cb ((x % 4294967296 ^ i) * y / 4294967296 ^ i) y d ob wr (by omega) (by omega) HWC.out HW.out.free (HS.out.ap HW.out.ap HP.out) HP.out (by omega) HY.out HST.out.1 (by omega)).mono ?_; rintro e w2 ⟨rfl, hw2⟩; have H2 := Lib.hid hw2; clear hw2)
      have HN : Hid (Win w.heap.size 0 (la + lb) (((x % 4294967296 ^ (i + 1)) * y : Nat) : Int) w1 w2) := by
        refine HW.out.part H2.out HST.out.2.1 (fun k hk => ?_) (fun k hk _ => HST.out.2.2.2 k hk) (by omega)
        exact HST.out.2.2.1 k
      clear H2 HWC HST HW
      go_roundw
      case rel => exact ⟨i + 1, by omega, by go_num, HN⟩
      case measure => simp [intOf]; omega
    · obtain rfl : i = la := by omega
      have HE : Hid (x % 4294967296 ^ i * y = x * y) := by unfold Hid; rw [Nat.mod_eq_of_lt HX.out]
      rw [HE.out] at HW
      have HLT : Hid (x * y < 4294967296 ^ (i + lb)) := by
        unfold Hid
        rw [Nat.pow_add]
        exact Nat.mul_lt_mul_of_le_of_lt (Nat.le_of_lt HX.out) HY.out (pw_pos _)
      go_wp2_with (go_at_call 81; refine (copied_any _ (i + lb) (x * y) wr (HW.out.lv (Nat.le_refl _) (by omega)) HLT.out (by omega)).mono ?_; rintro e w3 ⟨v, rfl, hv, hOn, -, -⟩; have HV := Lib.hid hv; have HOn := Lib.hid hOn; clear hv hOn)
      go_ret
      exact ⟨_, rfl, HV.out, (HO1.out.ap (Nat.le_refl _) HW.out.ap).trans HOn.out⟩
end Go.Proofs.Ytdgmlmcllkgemaa
