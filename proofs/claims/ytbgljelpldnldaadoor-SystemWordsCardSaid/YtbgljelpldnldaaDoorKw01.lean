/- The document's comparisons: sums, lists of variables, tuples: what the calls return. -/
import Derived.Test.YtbgljelpldnldaaDoorKz24
import Derived.Test.YtbgljelpldnldaaDoorKz22
import Derived.Test.YtbgljelpldnldaaDoorKz09
import Derived.Test.YtbgljelpldnldaaDoorKz10
import Derived.Test.YtbgljelpldnldaaDoorKz23
set_option linter.unusedSimpArgs false
set_option linter.unusedVariables false
/- The document's comparisons: sums, lists of variables, tuples: what the calls return. -/
namespace Go.Proofs.YtbgljelpldnldaaDoor
open Go.RowKit Go.Lib
set_option linter.unusedVariables false

set_option maxRecDepth 100000 in
set_option maxHeartbeats 1000000 in
theorem rsamev13_any (l m : List Vr) (va vb : Value) (w : World) (hA : VRw w va l) (hB : VRw w vb m) :
    Calls Tryd.prog 81 #[va, vb] w fun e w' => e = .returned (.bool (decide (l = m))) ∧ Drawn w w' := by
  obtain ⟨a, ac, rfl⟩ := hA.shape
  obtain ⟨b, bc, rfl⟩ := hB.shape
  have hLa := hA.2.1
  have hLb := hB.2.1
  have HA := Lib.hid hA.cells
  have HB := Lib.hid hB.cells
  by_cases hl : l.length = m.length
  rotate_left
  · have hd : decide (l = m) = false := decide_eq_false (fun e => hl (by rw [e]))
    have hb : (((l.length : Nat) : Int) != ((m.length : Nat) : Int)) = true := by simp; omega
    rw [hd]
    clear hd hl hA hB
    go_enter Tryd.func81, Tryd.ntmps81
    go_wp2
    go_ret
    exact ⟨rfl, Drawn.refl _⟩
  have hb : (((l.length : Nat) : Int) != ((m.length : Nat) : Int)) = false := by simp; omega
  have HL := Lib.hid hl
  clear hl hA hB
  go_enter Tryd.func81, Tryd.ntmps81
  go_wp2_with fail
  go_loopw [5] (fun vi wr => ∃ k q : Nat, k ≤ l.length ∧ vi = .int .i64 (k : Int) ∧ Hid (∀ j, j < k → l.getD j zV = m.getD j zV) ∧ Hid (wr = w.drewN q)) (fun vi _ => l.length - (intOf vi).toNat)
  case atStart => exact ⟨0, 0, Nat.zero_le _, rfl, fun j hj => by omega, Lib.hid rfl⟩
  case round =>
    rename World => wr
    obtain ⟨k, q, hk, rfl, HK, HO⟩ := hrel
    by_cases hlt : k < l.length
    · have hlt' : (k : Int) < (l.length : Int) := by omega
      have hlt2 : (k : Int) < (m.length : Int) := by have := HL.out; omega
      obtain ⟨b1, o1, rfl, c0, c1⟩ := HA.out k hlt
      obtain ⟨b2, o2, rfl, d0, d1⟩ := HB.out k (by rw [← HL.out]; exact hlt)
      have hcw : ∀ p, wr.cell? p = w.cell? p := fun p => by rw [HO.out]; rfl
      have x0 := (hcw _).trans c0
      have x1 := (hcw _).trans c1
      have y0 := (hcw _).trans d0
      have y1 := (hcw _).trans d1
      have HS : Hid (l.getD k zV = m.getD k zV → ∀ j, j < k + 1 → l.getD j zV = m.getD j zV) := fun e j hj => by
        by_cases h : j = k
        · rw [h]; exact e
        · exact HK.out j (by omega)
      have HNE : Hid (l.getD k zV ≠ m.getD k zV → decide (l = m) = false) := fun e => decide_eq_false (fun h => e (by rw [h]))
      clear c0 c1 d0 d1 HK hcw
      generalize l.getD k zV = X at *
      generalize m.getD k zV = Y at *
      have heq := eq_vr X Y
      by_cases hxy : X = Y
      · have HG := Lib.hid (HS.out hxy)
        have hd : decide (X = Y) = true := decide_eq_true hxy
        rw [hd] at heq
        clear hd hxy HS HNE
        go_wp2
        go_quiet (fail)
        go_wp2
        go_roundw
        case rel => exact ⟨k + 1, q + nq, by omega, by go_num, HG, by unfold Hid; rw [HO.out]; exact World.drewN_drewN _ _ _⟩
        case measure => simp [intOf]; omega
      · have HG := Lib.hid (HNE.out hxy)
        have hd : decide (X = Y) = false := decide_eq_false hxy
        rw [hd] at heq
        clear hd hxy HS HNE
        go_wp2
        go_quiet (fail)
        go_wp2
        go_ret
        exact ⟨by rw [HG.out]; rfl, q + nq, by rw [HO.out]; exact World.drewN_drewN _ _ _⟩
    · obtain rfl : k = l.length := by omega
      have HG : Hid (decide (l = m) = true) := decide_eq_true (ext_D zV HL.out HK.out)
      clear HK
      go_wp2
      go_ret
      exact ⟨by rw [HG.out]; rfl, q, HO.out⟩

set_option maxRecDepth 100000 in
set_option maxHeartbeats 2000000 in
theorem rsamem_any (s t : List Mo) (va vb : Value) (w : World) (hA : MRd w va s) (hB : MRd w vb t) :
    Calls Tryd.prog 79 #[va, vb] w fun e w' => e = .returned (.bool (decide (s = t))) ∧ Drawn w w' := by
  obtain ⟨a, ac, rfl⟩ := hA.shape
  obtain ⟨b, bc, rfl⟩ := hB.shape
  have hLa := hA.2.1
  have hLb := hB.2.1
  have HA := Lib.hid hA.cells
  have HB := Lib.hid hB.cells
  by_cases hl : s.length = t.length
  rotate_left
  · have hd : decide (s = t) = false := decide_eq_false (fun e => hl (by rw [e]))
    have hb : (((s.length : Nat) : Int) != ((t.length : Nat) : Int)) = true := by simp; omega
    rw [hd]
    clear hd hl hA hB
    go_enter Tryd.func79, Tryd.ntmps79
    go_wp2
    go_ret
    exact ⟨rfl, Drawn.refl _⟩
  have hb : (((s.length : Nat) : Int) != ((t.length : Nat) : Int)) = false := by simp; omega
  have HL := Lib.hid hl
  clear hl hA hB
  go_enter Tryd.func79, Tryd.ntmps79
  go_wp2_with fail
  go_loopw [5] (fun vi wr => ∃ k q : Nat, k ≤ s.length ∧ vi = .int .i64 (k : Int) ∧ Hid (∀ j, j < k → s.getD j zM = t.getD j zM) ∧ Hid (wr = w.drewN q)) (fun vi _ => s.length - (intOf vi).toNat)
  case atStart => exact ⟨0, 0, Nat.zero_le _, rfl, fun j hj => by omega, Lib.hid rfl⟩
  case round =>
    rename World => wr
    obtain ⟨k, q, hk, rfl, HK, HO⟩ := hrel
    by_cases hlt : k < s.length
    · have hlt' : (k : Int) < (s.length : Int) := by omega
      have hlt2 : (k : Int) < (t.length : Int) := by have := HL.out; omega
      obtain ⟨b1, o1, a1, c1, rfl, x0, x1, x2⟩ := HA.out k hlt
      obtain ⟨b2, o2, a2, c2, rfl, y0, y1, y2⟩ := HB.out k (by rw [← HL.out]; exact hlt)
      have hcw : ∀ p, wr.cell? p = w.cell? p := fun p => by rw [HO.out]; rfl
      have x0 := (hcw _).trans x0
      have x1 := (hcw _).trans x1
      have y0 := (hcw _).trans y0
      have y1 := (hcw _).trans y1
      have X2 : Hid (∀ n, VRd (wr.drewN n) (.slice a1 (s.getD k zM).2.length c1) (s.getD k zM).2) := fun n => (by rw [HO.out]; exact x2)
      have Y2 : Hid (∀ n, VRd (wr.drewN n) (.slice a2 (t.getD k zM).2.length c2) (t.getD k zM).2) := fun n => (by rw [HO.out]; exact y2)
      have HS : Hid ((s.getD k zM).1 = (t.getD k zM).1 → (s.getD k zM).2 = (t.getD k zM).2 → ∀ j, j < k + 1 → s.getD j zM = t.getD j zM) := fun e e' j hj => by
        by_cases h : j = k
        · rw [h]; exact Prod.ext e e'
        · exact HK.out j (by omega)
      have HNE : Hid ((s.getD k zM).1 ≠ (t.getD k zM).1 ∨ (s.getD k zM).2 ≠ (t.getD k zM).2 → decide (s = t) = false) := fun e => decide_eq_false (fun h => by rcases e with e | e <;> exact e (by rw [h]))
      have HCV : Hid (∀ n, Calls Tryd.prog 131 #[.slice a1 (s.getD k zM).2.length c1, .slice a2 (t.getD k zM).2.length c2] (wr.drewN n) fun e w' => e = .returned (.bool (decide ((s.getD k zM).2 = (t.getD k zM).2))) ∧ Drawn (wr.drewN n) w') := fun n => rsamev_any _ _ _ _ _ (X2.out n) (Y2.out n)
      clear HK x2 y2 X2 Y2 hcw
      generalize (s.getD k zM).1 = p at *
      generalize (t.getD k zM).1 = r at *
      generalize (s.getD k zM).2 = ls at *
      generalize (t.getD k zM).2 = lt at *
      by_cases hpr : p = r
      · have hb1 : (((p : Nat) : Int) != ((r : Nat) : Int)) = false := by simp [hpr]
        by_cases hxy : ls = lt
        · have HG := Lib.hid (HS.out hpr hxy)
          have hd : decide (ls = lt) = true := decide_eq_true hxy
          rw [hd] at HCV
          clear hd hxy HS HNE hpr
          go_wp2
          go_quiet ((go_at_call 131; exact quiet_of_drawn (HCV.out _)))
          go_wp2
          go_roundw
          case rel => exact ⟨k + 1, q + nq, by omega, by go_num, HG, by unfold Hid; rw [HO.out]; exact World.drewN_drewN _ _ _⟩
          case measure => simp [intOf]; omega
        · have HG := Lib.hid (HNE.out (.inr hxy))
          have hd : decide (ls = lt) = false := decide_eq_false hxy
          rw [hd] at HCV
          clear hd hxy HS HNE hpr
          go_wp2
          go_quiet ((go_at_call 131; exact quiet_of_drawn (HCV.out _)))
          go_wp2
          go_ret
          exact ⟨by rw [HG.out]; rfl, q + nq, by rw [HO.out]; exact World.drewN_drewN _ _ _⟩
      · have hb1 : (((p : Nat) : Int) != ((r : Nat) : Int)) = true := by simp; omega
        have HG := Lib.hid (HNE.out (.inl hpr))
        clear HS HNE hpr
        go_wp2
        go_quiet (fail)
        go_wp2
        go_ret
        exact ⟨by rw [HG.out]; rfl, q + nq, by rw [HO.out]; exact World.drewN_drewN _ _ _⟩
    · obtain rfl : k = s.length := by omega
      have HG : Hid (decide (s = t) = true) := decide_eq_true (ext_D zM HL.out HK.out)
      clear HK
      go_wp2
      go_ret
      exact ⟨by rw [HG.out]; rfl, q, HO.out⟩
set_option maxRecDepth 100000 in
set_option maxHeartbeats 2000000 in
theorem rsamet13_any (l m : List (List Vr)) (va vb : Value) (w : World) (hT : Tab w) (hA : TupL w va l) (hB : TupL w vb m) :
    Calls Tryd.prog 80 #[va, vb] w fun e w' => e = .returned (.bool (decide (l = m))) ∧ Drawn w w' := by
  obtain ⟨a, ac, rfl⟩ := hA.shape
  obtain ⟨b, bc, rfl⟩ := hB.shape
  have hLa := hA.1
  have hLb := hB.1
  have HA := Lib.hid hA.cells
  have HB := Lib.hid hB.cells
  by_cases hl : l.length = m.length
  rotate_left
  · have hd : decide (l = m) = false := decide_eq_false (fun e => hl (by rw [e]))
    have hb : (((l.length : Nat) : Int) != ((m.length : Nat) : Int)) = true := by simp; omega
    rw [hd]
    clear hd hl hA hB
    go_enter Tryd.func80, Tryd.ntmps80
    go_wp2
    go_ret
    exact ⟨rfl, Drawn.refl _⟩
  have hb : (((l.length : Nat) : Int) != ((m.length : Nat) : Int)) = false := by simp; omega
  have HL := Lib.hid hl
  clear hl hA hB hT
  go_enter Tryd.func80, Tryd.ntmps80
  go_wp2_with fail
  go_loopw [5] (fun vi wr => ∃ k q : Nat, k ≤ l.length ∧ vi = .int .i64 (k : Int) ∧ Hid (∀ j, j < k → l.getD j [] = m.getD j []) ∧ Hid (wr = w.drewN q)) (fun vi _ => l.length - (intOf vi).toNat)
  case atStart => exact ⟨0, 0, Nat.zero_le _, rfl, fun j hj => by omega, Lib.hid rfl⟩
  case round =>
    rename World => wr
    obtain ⟨k, q, hk, rfl, HK, HO⟩ := hrel
    by_cases hlt : k < l.length
    · have hlt' : (k : Int) < (l.length : Int) := by omega
      have hlt2 : (k : Int) < (m.length : Int) := by have := HL.out; omega
      obtain ⟨b1, o1, rfl, u1, c0, c1⟩ := HA.out k hlt
      obtain ⟨b2, o2, rfl, u2, d0, d1⟩ := HB.out k (by rw [← HL.out]; exact hlt)
      obtain ⟨a1, n1, rfl⟩ := c1.shape
      obtain ⟨a2, n2, rfl⟩ := d1.shape
      rw [Nat.mul_one] at c0 d0
      have hcw : ∀ p, wr.cell? p = w.cell? p := fun p => by rw [HO.out]; rfl
      have x0 := (hcw _).trans c0
      have y0 := (hcw _).trans d0
      have HS : Hid (l.getD k [] = m.getD k [] → ∀ j, j < k + 1 → l.getD j [] = m.getD j []) := fun e j hj => by
        by_cases h : j = k
        · rw [h]; exact e
        · exact HK.out j (by omega)
      have HNE : Hid (l.getD k [] ≠ m.getD k [] → decide (l = m) = false) := fun e => decide_eq_false (fun h => e (by rw [h]))
      have HCV : Hid (∀ n, Calls Tryd.prog 81 #[.slice a1 (l.getD k []).length n1, .slice a2 (m.getD k []).length n2] (wr.drewN n) fun e w' => e = .returned (.bool (decide (l.getD k [] = m.getD k []))) ∧ Drawn (wr.drewN n) w') := fun n => rsamev13_any _ _ _ _ _ (by rw [HO.out]; exact c1) (by rw [HO.out]; exact d1)
      clear c0 c1 d0 d1 HK hcw
      generalize l.getD k [] = X at *
      generalize m.getD k [] = Y at *
      by_cases hxy : X = Y
      · have HG := Lib.hid (HS.out hxy)
        have hd : decide (X = Y) = true := decide_eq_true hxy
        rw [hd] at HCV
        clear hd hxy HS HNE
        go_wp2
        go_quiet ((go_at_call 81; exact quiet_of_drawn (HCV.out _)))
        go_wp2
        go_roundw
        case rel => exact ⟨k + 1, q + nq, by omega, by go_num, HG, by unfold Hid; rw [HO.out]; exact World.drewN_drewN _ _ _⟩
        case measure => simp [intOf]; omega
      · have HG := Lib.hid (HNE.out hxy)
        have hd : decide (X = Y) = false := decide_eq_false hxy
        rw [hd] at HCV
        clear hd hxy HS HNE
        go_wp2
        go_quiet ((go_at_call 81; exact quiet_of_drawn (HCV.out _)))
        go_wp2
        go_ret
        exact ⟨by rw [HG.out]; rfl, q + nq, by rw [HO.out]; exact World.drewN_drewN _ _ _⟩
    · obtain rfl : k = l.length := by omega
      have HG : Hid (decide (l = m) = true) := decide_eq_true (ext_D [] HL.out HK.out)
      clear HK
      go_wp2
      go_ret
      exact ⟨by rw [HG.out]; rfl, q, HO.out⟩
end Go.Proofs.YtbgljelpldnldaaDoor

/- Plain: two valid systems have the same words exactly if they are the same but for their fixed columns' values. -/
namespace Go.Proofs.YtbgljelpldnldaaDoor
open Go.RowKit Go.Lib
set_option linter.unusedVariables false

/-- f tells its argument, whatever follows. -/
def Tells {α : Type} (p : α → Prop) (f : α → List Nat) : Prop := ∀ x y, p x → p y → ∀ r s, f x ++ r = f y ++ s → x = y ∧ r = s
theorem tells_flat {α : Type} {p : α → Prop} {f : α → List Nat} (hf : Tells p f) : ∀ l m : List α, (∀ x ∈ l, p x) → (∀ x ∈ m, p x) → l.length = m.length → ∀ r s, l.flatMap f ++ r = m.flatMap f ++ s → l = m ∧ r = s
  | [], [], _, _, _, r, s, h => ⟨rfl, by simpa using h⟩
  | [], y :: m, _, _, hl, _, _, _ => by simp at hl
  | x :: l, [], _, _, hl, _, _, _ => by simp at hl
  | x :: l, y :: m, hx, hy, hl, r, s, h => by
    rw [List.flatMap_cons, List.flatMap_cons, List.append_assoc, List.append_assoc] at h
    obtain ⟨rfl, h2⟩ := hf x y (hx x (by simp)) (hy y (by simp)) _ _ h
    obtain ⟨rfl, h3⟩ := tells_flat hf l m (fun z hz => hx z (List.mem_cons_of_mem _ hz)) (fun z hz => hy z (List.mem_cons_of_mem _ hz)) (by simpa using hl) _ _ h2
    exact ⟨rfl, h3⟩
theorem tells_v : Tells posV vN := fun x y hx hy r s h => by
  obtain ⟨x1, x2⟩ := x
  obtain ⟨y1, y2⟩ := y
  unfold posV at hx hy
  simp only [vN, List.cons_append, List.nil_append, List.cons.injEq] at h hx hy
  obtain ⟨h1, h2, h3⟩ := h
  exact ⟨by rw [Prod.mk.injEq]; omega, h3⟩
theorem tells_vs (n : Nat) : Tells (fun t : List Vr => t.length = n ∧ ∀ v ∈ t, posV v) vsW := fun x y hx hy r s h => tells_flat tells_v x y hx.2 hy.2 (hx.1.trans hy.1.symm) r s h
theorem tells_mo : Tells (fun m : Mo => ∀ v ∈ m.2, posV v) moW := fun x y hx hy r s h => by
  obtain ⟨x1, x2⟩ := x
  obtain ⟨y1, y2⟩ := y
  simp only [moW, List.append_assoc, List.cons_append, List.nil_append, List.cons.injEq] at h hx hy
  obtain ⟨rfl, h2, h3⟩ := h
  obtain ⟨rfl, h4⟩ := tells_flat tells_v x2 y2 hx hy h2 r s h3
  exact ⟨rfl, h4⟩
theorem tells_ru : Tells (fun q : Ru => 0 ≤ q.1 ∧ ∀ m ∈ q.2, ∀ v ∈ m.2, posV v) ruW := fun x y hx hy r s h => by
  obtain ⟨x1, x2⟩ := x
  obtain ⟨y1, y2⟩ := y
  simp only [ruW, List.append_assoc, List.cons_append, List.nil_append, List.cons.injEq] at h hx hy
  obtain ⟨h1, h2, h3⟩ := h
  obtain ⟨rfl, h4⟩ := tells_flat tells_mo x2 y2 hx.2 hy.2 h2 r s h3
  exact ⟨by rw [Prod.mk.injEq]; exact ⟨by omega, rfl⟩, h4⟩
/-- A permutation as a valid system has it. -/
def pmP (p : Pm) : Prop := 1 ≤ p.1.length ∧ p.2.length = p.1.length ∧ (∀ t ∈ p.1, t.length = (p.1.getD 0 []).length ∧ ∀ v ∈ t, posV v) ∧ ∀ t ∈ p.2, t.length = (p.1.getD 0 []).length ∧ ∀ v ∈ t, posV v
theorem tells_pm : Tells pmP pmW := fun x y hx hy r s h => by
  obtain ⟨x1, x2⟩ := x
  obtain ⟨y1, y2⟩ := y
  unfold pmP at hx hy
  simp only [pmW, List.append_assoc, List.cons_append, List.nil_append, List.cons.injEq] at h hx hy
  obtain ⟨h1, h2, h3⟩ := h
  obtain ⟨a1, a2, a3, a4⟩ := hx
  obtain ⟨b1, b2, b3, b4⟩ := hy
  rw [← h2] at b3 b4
  obtain ⟨rfl, h4⟩ := tells_flat (tells_vs (x1.getD 0 []).length) x1 y1 a3 b3 h1 _ _ h3
  obtain ⟨rfl, h5⟩ := tells_flat (tells_vs (x1.getD 0 []).length) x2 y2 a4 b4 (by omega) r s h4
  exact ⟨rfl, h5⟩
/-- A lookup as a valid system has it. -/
def lkP (l : Lk) : Prop := l.ta.length = l.tu.length ∧ (∀ v ∈ l.tu, posV v) ∧ (∀ v ∈ l.ta, posV v) ∧ posV l.ct
theorem tells_lk : Tells lkP lkW := fun x y hx hy r s h => by
  obtain ⟨x1, x2, x3⟩ := x
  obtain ⟨y1, y2, y3⟩ := y
  unfold lkP at hx hy
  simp only [lkW, List.append_assoc, List.cons_append, List.nil_append, List.cons.injEq] at h hx hy
  obtain ⟨h1, h3⟩ := h
  obtain ⟨a1, a2, a3, a4⟩ := hx
  obtain ⟨b1, b2, b3, b4⟩ := hy
  obtain ⟨rfl, h4⟩ := tells_flat tells_v x1 y1 a2 b2 h1 _ _ h3
  obtain ⟨rfl, h5⟩ := tells_flat tells_v x2 y2 a3 b3 (by omega) _ _ h4
  obtain ⟨rfl, h6⟩ := tells_v x3 y3 a4 b4 _ _ h5
  exact ⟨rfl, h6⟩
/-- The numbers of two systems. -/
abbrev hdE (A B : Sy) : Prop := A.f = B.f ∧ A.rows = B.rows ∧ A.main = B.main ∧ A.pub = B.pub ∧ A.fixed.length = B.fixed.length ∧ A.rules.length = B.rules.length ∧ A.perms.length = B.perms.length ∧ A.looks.length = B.looks.length
/-- The same but for the values of the fixed columns. -/
def shE (A B : Sy) : Prop := hdE A B ∧ A.rules = B.rules ∧ A.perms = B.perms ∧ A.looks = B.looks
theorem sy_pos {w : World} {S : Sy} {H : Sh} (hR : SyR w H S) (hv : valSy S = true) : (∀ r ∈ S.rules, 0 ≤ r.1 ∧ ∀ m ∈ r.2, ∀ v ∈ m.2, posV v) ∧ (∀ p ∈ S.perms, pmP p) ∧ ∀ l ∈ S.looks, lkP l := by
  obtain ⟨hsz, hru, hpm, hlk⟩ := valSy_parts hv
  obtain ⟨_, r1, r2, r3, r4⟩ := hR
  have hT : ∀ {u : Value} {tl : List (List Vr)} {n : Nat}, TupL w u tl → (∀ t ∈ tl, tnB S n t = true) → ∀ t ∈ tl, t.length = n ∧ ∀ v ∈ t, posV v := fun {u tl n} ht h t htm => by
    obtain ⟨i, hi, rfl⟩ := List.getElem_of_mem htm
    obtain ⟨a, c, rfl⟩ := ht.shape
    obtain ⟨_, _, _, u, _, h2⟩ := ht.cells i hi
    rw [List.getD_eq_getElem?_getD, List.getElem?_eq_getElem hi] at h2
    have h3 := tnB_parts (h _ htm)
    exact ⟨h3.1, has_pos (tuB_parts h3.2).2.2 h2.1⟩
  refine ⟨fun r hr => ?_, fun p hp => ?_, fun l hl => ?_⟩
  · obtain ⟨i, hi, rfl⟩ := List.getElem_of_mem hr
    obtain ⟨b, off, _, ⟨_, h0⟩, u, _, h2⟩ := r2.cells i hi
    rw [List.getD_eq_getElem?_getD, List.getElem?_eq_getElem hi] at h0 h2
    simp only [Option.getD_some] at h0 h2
    obtain ⟨_, ks, hm⟩ := ruB_parts (hru _ hr)
    refine ⟨h0.1, fun m hmm => ?_⟩
    obtain ⟨j, hj, rfl⟩ := List.getElem_of_mem hmm
    obtain ⟨a, c, rfl⟩ := h2.shape
    obtain ⟨_, _, _, _, _, _, _, h3⟩ := h2.cells j hj
    rw [List.getD_eq_getElem?_getD, List.getElem?_eq_getElem hj] at h3
    simp only [Option.getD_some] at h3
    exact has_pos (moB_parts (hm _ hmm)).2.2 h3.1
  · obtain ⟨i, hi, rfl⟩ := List.getElem_of_mem hp
    obtain ⟨b, off, _, u, u', _, _, h2, h3⟩ := r3.cells i hi
    rw [List.getD_eq_getElem?_getD, List.getElem?_eq_getElem hi] at h2 h3
    simp only [Option.getD_some] at h2 h3
    obtain ⟨q1, q2, q3, q4, q5⟩ := pmB_parts (hpm _ hp)
    exact ⟨q1, q3, hT h2 q4, hT h3 q5⟩
  · obtain ⟨i, hi, rfl⟩ := List.getElem_of_mem hl
    obtain ⟨b, off, _, u, u', _, _, _, _, h1, h2, h3⟩ := r4.cells i hi
    rw [List.getD_eq_getElem?_getD, List.getElem?_eq_getElem hi] at h1 h2 h3
    simp only [Option.getD_some] at h1 h2 h3
    obtain ⟨q1, q2, q3, q4⟩ := lkB_parts (hlk _ hl)
    exact ⟨q1, has_pos (tuB_parts q2).2.2 h2.1, has_pos (tuB_parts q3).2.2 h3.1, has_pos (t := [S.looks[i].ct]) (ks := [1]) (S := S) (by simpa using q4) (by simpa using h1) _ (by simp)⟩
theorem words_tell {w w' : World} {A B : Sy} {H H' : Sh} (hA : SyR w H A) (hB : SyR w' H' B) (vA : valSy A = true) (vB : valSy B = true) : wordsS A = wordsS B ↔ shE A B := by
  unfold wordsS
  rw [if_pos vA, if_pos vB]
  obtain ⟨a1, a2, a3⟩ := sy_pos hA vA
  obtain ⟨b1, b2, b3⟩ := sy_pos hB vB
  have za := szS_facts (valSy_parts vA).1
  have zb := szS_facts (valSy_parts vB).1
  have fa : 0 ≤ A.f := by have h := za.1; unfold validB at h; simp at h; omega
  have fb : 0 ≤ B.f := by have h := zb.1; unfold validB at h; simp at h; omega
  obtain ⟨_, za1, _, _, za4, _, za6, _⟩ := za
  obtain ⟨_, zb1, _, _, zb4, _, zb6, _⟩ := zb
  constructor
  · intro h
    unfold wordsV at h
    simp only [hdW, List.append_assoc, List.cons_append, List.nil_append, List.cons.injEq] at h
    obtain ⟨h1, h2, h3, h4, h5, h6, h7, h8, h9⟩ := h
    obtain ⟨e1, h10⟩ := tells_flat tells_ru _ _ a1 b1 h6 _ _ h9
    obtain ⟨e2, h11⟩ := tells_flat tells_pm _ _ a2 b2 h7 _ _ h10
    obtain ⟨e3, _⟩ := tells_flat tells_lk _ _ a3 b3 h8 [] [] (by simpa using h11)
    exact ⟨⟨by omega, by omega, by omega, by omega, h5, h6, h7, h8⟩, e1, e2, e3⟩
  · rintro ⟨⟨h1, h2, h3, h4, h5, _, _, _⟩, e1, e2, e3⟩
    unfold wordsV hdW
    rw [h1, h2, h3, h4, h5, e1, e2, e3]
end Go.Proofs.YtbgljelpldnldaaDoor

/- The document's SameShape: what the call returns. -/
namespace Go.Proofs.YtbgljelpldnldaaDoor
open Go.RowKit Go.Lib
set_option linter.unusedVariables false

theorem vb_newS2 (S : Sy) (H : Sh) (w : World) (B : Nat) (hB : B = w.heap.size) : VB B (w.alloc (syO S H)) (syL S H) := by subst hB; exact vb_newS S H w
/-- What SameShape answers. -/
def ShPost (A B : Sy) (w : World) (e : Ending) (w' : World) : Prop := (∃ b : Bool, e = .returned (.bool b) ∧ (b = true ↔ shE A B)) ∧ On w w'
theorem ShPost.no {A B : Sy} {w w' : World} (h : ¬ shE A B) (k : On w w') : ShPost A B w (.returned (.bool false)) w' := ⟨⟨false, rfl, ⟨fun h => (by cases h), fun e => absurd e h⟩⟩, k⟩
theorem ShPost.yes {A B : Sy} {w w' : World} (h : shE A B) (k : On w w') : ShPost A B w (.returned (.bool true)) w' := ⟨⟨true, rfl, ⟨fun _ => h, fun _ => rfl⟩⟩, k⟩
set_option maxHeartbeats 8000000 in
set_option maxRecDepth 100000 in
theorem rshape_any (A B : Sy) (a1 a2 a3 a4 : Option Addr) (k1 k2 k3 k4 : Nat) (b1 b2 b3 b4 : Option Addr) (j1 j2 j3 j4 : Nat) (w : World) (hT : Tab w) (hRA : SyR w ⟨a1, a2, a3, a4, k1, k2, k3, k4⟩ A) (hRB : SyR w ⟨b1, b2, b3, b4, j1, j2, j3, j4⟩ B) (vA : valSy A = true) (vB : valSy B = true) :
    Calls Tryd.prog 29 #[syA A ⟨a1, a2, a3, a4, k1, k2, k3, k4⟩, syA B ⟨b1, b2, b3, b4, j1, j2, j3, j4⟩] w (ShPost A B w) := by
  obtain ⟨W0, hW0⟩ : ∃ W0, W0 = (w.alloc (syO A ⟨a1, a2, a3, a4, k1, k2, k3, k4⟩)).alloc (syO B ⟨b1, b2, b3, b4, j1, j2, j3, j4⟩) := ⟨_, rfl⟩
  have hA1 := (On.refl hT).alloc (syO A ⟨a1, a2, a3, a4, k1, k2, k3, k4⟩)
  have hA2 := (On.refl hA1.tab).alloc (syO B ⟨b1, b2, b3, b4, j1, j2, j3, j4⟩)
  have hO0 : On w W0 := by rw [hW0]; exact hA1.trans hA2
  obtain ⟨Q, hQ⟩ : ∃ Q, Q = w.heap.size := ⟨_, rfl⟩
  have HBA : Hid (VB Q W0 (syL A ⟨a1, a2, a3, a4, k1, k2, k3, k4⟩)) := by rw [hW0, hQ]; exact Lib.hid ((vb_newS A _ w).on hA2)
  have HBB : Hid (VB (Q + 1) W0 (syL B ⟨b1, b2, b3, b4, j1, j2, j3, j4⟩)) := by rw [hW0]; exact Lib.hid (vb_newS2 B _ _ _ (by rw [World.size_alloc, hQ]))
  have HSA : Hid (∀ wq, On W0 wq → _) := fun wq h => sy_cells (HBA.out.on h)
  have HSB : Hid (∀ wq, On W0 wq → _) := fun wq h => sy_cells (HBB.out.on h)
  have HOK : Hid (On W0 W0) := On.refl hO0.tab
  have HW0 := Lib.hid hW0; have HQ := Lib.hid hQ; have HO0 := Lib.hid hO0
  have HRA := Lib.hid (hRA.on hO0); have HRB := Lib.hid (hRB.on hO0)
  have HVA := Lib.hid vA; have HVB := Lib.hid vB
  clear hT hRA hRB hW0 hO0 hQ HBA HBB hA1 hA2 vA vB
  by_cases e0 : A.f = B.f
  rotate_left
  · have hF : ¬ shE A B := fun h => e0 h.1.1
    have HF := Lib.hid hF
    have q0 : (A.f != B.f) = true := by simpa using e0
    clear hF HRA HRB HVA HVB e0
    go_enter Tryd.func29, Tryd.ntmps29
    go_upto_region 1 with fail
    rw [← HW0.out, ← HQ.out]
    obtain ⟨s0, s1, s2, s3, s4, s5, s6, s7⟩ := HSA.out _ HOK.out
    obtain ⟨t0, t1, t2, t3, t4, t5, t6, t7⟩ := HSB.out _ HOK.out
    go_wp2
    go_ret
    exact ShPost.no HF.out HO0.out
  by_cases e1 : A.rows = B.rows
  rotate_left
  · have hF : ¬ shE A B := fun h => e1 h.1.2.1
    have HF := Lib.hid hF
    have q0 : (A.f != B.f) = false := by rw [e0]; simp
    have q1 : (A.rows != B.rows) = true := by simpa using e1
    clear hF HRA HRB HVA HVB e0 e1
    go_enter Tryd.func29, Tryd.ntmps29
    go_upto_region 1 with fail
    rw [← HW0.out, ← HQ.out]
    obtain ⟨s0, s1, s2, s3, s4, s5, s6, s7⟩ := HSA.out _ HOK.out
    obtain ⟨t0, t1, t2, t3, t4, t5, t6, t7⟩ := HSB.out _ HOK.out
    go_wp2
    go_ret
    exact ShPost.no HF.out HO0.out
  by_cases e2 : A.main = B.main
  rotate_left
  · have hF : ¬ shE A B := fun h => e2 h.1.2.2.1
    have HF := Lib.hid hF
    have q0 : (A.f != B.f) = false := by rw [e0]; simp
    have q1 : (A.rows != B.rows) = false := by rw [e1]; simp
    have q2 : (A.main != B.main) = true := by simpa using e2
    clear hF HRA HRB HVA HVB e0 e1 e2
    go_enter Tryd.func29, Tryd.ntmps29
    go_upto_region 1 with fail
    rw [← HW0.out, ← HQ.out]
    obtain ⟨s0, s1, s2, s3, s4, s5, s6, s7⟩ := HSA.out _ HOK.out
    obtain ⟨t0, t1, t2, t3, t4, t5, t6, t7⟩ := HSB.out _ HOK.out
    go_wp2
    go_ret
    exact ShPost.no HF.out HO0.out
  by_cases e3 : A.pub = B.pub
  rotate_left
  · have hF : ¬ shE A B := fun h => e3 h.1.2.2.2.1
    have HF := Lib.hid hF
    have q0 : (A.f != B.f) = false := by rw [e0]; simp
    have q1 : (A.rows != B.rows) = false := by rw [e1]; simp
    have q2 : (A.main != B.main) = false := by rw [e2]; simp
    have q3 : (A.pub != B.pub) = true := by simpa using e3
    clear hF HRA HRB HVA HVB e0 e1 e2 e3
    go_enter Tryd.func29, Tryd.ntmps29
    go_upto_region 1 with fail
    rw [← HW0.out, ← HQ.out]
    obtain ⟨s0, s1, s2, s3, s4, s5, s6, s7⟩ := HSA.out _ HOK.out
    obtain ⟨t0, t1, t2, t3, t4, t5, t6, t7⟩ := HSB.out _ HOK.out
    go_wp2
    go_ret
    exact ShPost.no HF.out HO0.out
  by_cases e4 : A.fixed.length = B.fixed.length
  rotate_left
  · have hF : ¬ shE A B := fun h => e4 h.1.2.2.2.2.1
    have HF := Lib.hid hF
    have q0 : (A.f != B.f) = false := by rw [e0]; simp
    have q1 : (A.rows != B.rows) = false := by rw [e1]; simp
    have q2 : (A.main != B.main) = false := by rw [e2]; simp
    have q3 : (A.pub != B.pub) = false := by rw [e3]; simp
    have q4 : (((A.fixed.length : Nat) : Int) != ((B.fixed.length : Nat) : Int)) = true := by simp; omega
    clear hF HRA HRB HVA HVB e0 e1 e2 e3 e4
    go_enter Tryd.func29, Tryd.ntmps29
    go_upto_region 1 with fail
    rw [← HW0.out, ← HQ.out]
    obtain ⟨s0, s1, s2, s3, s4, s5, s6, s7⟩ := HSA.out _ HOK.out
    obtain ⟨t0, t1, t2, t3, t4, t5, t6, t7⟩ := HSB.out _ HOK.out
    go_wp2
    go_ret
    exact ShPost.no HF.out HO0.out
  by_cases e5 : A.rules.length = B.rules.length
  rotate_left
  · have hF : ¬ shE A B := fun h => e5 h.1.2.2.2.2.2.1
    have HF := Lib.hid hF
    have q0 : (A.f != B.f) = false := by rw [e0]; simp
    have q1 : (A.rows != B.rows) = false := by rw [e1]; simp
    have q2 : (A.main != B.main) = false := by rw [e2]; simp
    have q3 : (A.pub != B.pub) = false := by rw [e3]; simp
    have q4 : (((A.fixed.length : Nat) : Int) != ((B.fixed.length : Nat) : Int)) = false := by rw [e4]; simp
    have q5 : (((A.rules.length : Nat) : Int) != ((B.rules.length : Nat) : Int)) = true := by simp; omega
    clear hF HRA HRB HVA HVB e0 e1 e2 e3 e4 e5
    go_enter Tryd.func29, Tryd.ntmps29
    go_upto_region 1 with fail
    rw [← HW0.out, ← HQ.out]
    obtain ⟨s0, s1, s2, s3, s4, s5, s6, s7⟩ := HSA.out _ HOK.out
    obtain ⟨t0, t1, t2, t3, t4, t5, t6, t7⟩ := HSB.out _ HOK.out
    go_wp2
    go_ret
    exact ShPost.no HF.out HO0.out
  by_cases e6 : A.perms.length = B.perms.length
  rotate_left
  · have hF : ¬ shE A B := fun h => e6 h.1.2.2.2.2.2.2.1
    have HF := Lib.hid hF
    have q0 : (A.f != B.f) = false := by rw [e0]; simp
    have q1 : (A.rows != B.rows) = false := by rw [e1]; simp
    have q2 : (A.main != B.main) = false := by rw [e2]; simp
    have q3 : (A.pub != B.pub) = false := by rw [e3]; simp
    have q4 : (((A.fixed.length : Nat) : Int) != ((B.fixed.length : Nat) : Int)) = false := by rw [e4]; simp
    have q5 : (((A.rules.length : Nat) : Int) != ((B.rules.length : Nat) : Int)) = false := by rw [e5]; simp
    have q6 : (((A.perms.length : Nat) : Int) != ((B.perms.length : Nat) : Int)) = true := by simp; omega
    clear hF HRA HRB HVA HVB e0 e1 e2 e3 e4 e5 e6
    go_enter Tryd.func29, Tryd.ntmps29
    go_upto_region 1 with fail
    rw [← HW0.out, ← HQ.out]
    obtain ⟨s0, s1, s2, s3, s4, s5, s6, s7⟩ := HSA.out _ HOK.out
    obtain ⟨t0, t1, t2, t3, t4, t5, t6, t7⟩ := HSB.out _ HOK.out
    go_wp2
    go_ret
    exact ShPost.no HF.out HO0.out
  by_cases e7 : A.looks.length = B.looks.length
  rotate_left
  · have hF : ¬ shE A B := fun h => e7 h.1.2.2.2.2.2.2.2
    have HF := Lib.hid hF
    have q0 : (A.f != B.f) = false := by rw [e0]; simp
    have q1 : (A.rows != B.rows) = false := by rw [e1]; simp
    have q2 : (A.main != B.main) = false := by rw [e2]; simp
    have q3 : (A.pub != B.pub) = false := by rw [e3]; simp
    have q4 : (((A.fixed.length : Nat) : Int) != ((B.fixed.length : Nat) : Int)) = false := by rw [e4]; simp
    have q5 : (((A.rules.length : Nat) : Int) != ((B.rules.length : Nat) : Int)) = false := by rw [e5]; simp
    have q6 : (((A.perms.length : Nat) : Int) != ((B.perms.length : Nat) : Int)) = false := by rw [e6]; simp
    have q7 : (((A.looks.length : Nat) : Int) != ((B.looks.length : Nat) : Int)) = true := by simp; omega
    clear hF HRA HRB HVA HVB e0 e1 e2 e3 e4 e5 e6 e7
    go_enter Tryd.func29, Tryd.ntmps29
    go_upto_region 1 with fail
    rw [← HW0.out, ← HQ.out]
    obtain ⟨s0, s1, s2, s3, s4, s5, s6, s7⟩ := HSA.out _ HOK.out
    obtain ⟨t0, t1, t2, t3, t4, t5, t6, t7⟩ := HSB.out _ HOK.out
    go_wp2
    go_ret
    exact ShPost.no HF.out HO0.out
  obtain ⟨hszA, hruA, hpmA, hlkA⟩ := valSy_parts HVA.out
  obtain ⟨hszB, hruB, hpmB, hlkB⟩ := valSy_parts HVB.out
  obtain ⟨_, f1, f2, f3, f4, f5, f6, f7, f8, f9, fa, fb⟩ := szS_facts hszA
  have hn1 : A.rules.length ≤ 64 := f9
  have hn2 : A.perms.length ≤ 4 := fa
  have hn3 : A.looks.length ≤ 8 := fb
  have HHD : Hid (hdE A B) := Lib.hid ⟨e0, e1, e2, e3, e4, e5, e6, e7⟩
  have HRUA : Hid (∀ i, i < A.rules.length → ∃ b off ua uc, a2 = some ⟨b, off, none⟩ ∧ W0.cell? ⟨b, off + i * 2, none⟩ = some (.int .u8 (A.rules.getD i zRu).1) ∧ W0.cell? ⟨b, off + i * 2 + 1, none⟩ = some (.slice ua (A.rules.getD i zRu).2.length uc) ∧ MRd W0 (.slice ua (A.rules.getD i zRu).2.length uc) (A.rules.getD i zRu).2) := fun i hi => by
    obtain ⟨b, off, e, ⟨d0, _⟩, u, d1, d2⟩ := HRA.out.2.2.1.cells i hi
    obtain ⟨ua, uc, rfl⟩ := d2.shape
    obtain ⟨q1, q2⟩ := ruB_short (hruA _ (mem_getD zRu _ i hi))
    exact ⟨b, off, ua, uc, e, d0, d1, d2.short8 q1 q2⟩
  have HPMA : Hid (∀ i, i < A.perms.length → ∃ b off ua uc va vc, a3 = some ⟨b, off, none⟩ ∧ W0.cell? ⟨b, off + i * 2, none⟩ = some (.slice ua (A.perms.getD i zPm).1.length uc) ∧ W0.cell? ⟨b, off + i * 2 + 1, none⟩ = some (.slice va (A.perms.getD i zPm).2.length vc) ∧ TupL W0 (.slice ua (A.perms.getD i zPm).1.length uc) (A.perms.getD i zPm).1 ∧ TupL W0 (.slice va (A.perms.getD i zPm).2.length vc) (A.perms.getD i zPm).2) := fun i hi => by
    obtain ⟨b, off, e, u, u', d0, d1, d2, d3⟩ := HRA.out.2.2.2.1.cells i hi
    obtain ⟨ua, uc, rfl⟩ := d2.shape
    obtain ⟨va, vc, rfl⟩ := d3.shape
    exact ⟨b, off, ua, uc, va, vc, e, d0, d1, d2, d3⟩
  have HLKA : Hid (∀ i, i < A.looks.length → ∃ b off ua uc va vc, a4 = some ⟨b, off, none⟩ ∧ (∀ wq, On W0 wq → wq.cell? ⟨b, off + i * 4, none⟩ = some (.slice ua (A.looks.getD i zLk).tu.length uc) ∧ wq.cell? ⟨b, off + i * 4 + 1, none⟩ = some (.slice va (A.looks.getD i zLk).ta.length vc) ∧ wq.cell? ⟨b, off + i * 4 + 2, none⟩ = some (.int .u8 (A.looks.getD i zLk).ct.1) ∧ wq.cell? ⟨b, off + i * 4 + 3, none⟩ = some (.int .i64 (A.looks.getD i zLk).ct.2)) ∧ VRw W0 (.slice ua (A.looks.getD i zLk).tu.length uc) (A.looks.getD i zLk).tu ∧ VRw W0 (.slice va (A.looks.getD i zLk).ta.length vc) (A.looks.getD i zLk).ta) := fun i hi => by
    obtain ⟨b, off, e, u, u', d0, d1, d2, d3, d4, d5, d6⟩ := HRA.out.2.2.2.2.cells i hi
    obtain ⟨ua, uc, rfl⟩ := d5.shape
    obtain ⟨va, vc, rfl⟩ := d6.shape
    exact ⟨b, off, ua, uc, va, vc, e, fun wq h => ⟨cell_on h d0, cell_on h d1, cell_on h d2, cell_on h d3⟩, d5, d6⟩
  have HRUB : Hid (∀ i, i < B.rules.length → ∃ b off ua uc, b2 = some ⟨b, off, none⟩ ∧ W0.cell? ⟨b, off + i * 2, none⟩ = some (.int .u8 (B.rules.getD i zRu).1) ∧ W0.cell? ⟨b, off + i * 2 + 1, none⟩ = some (.slice ua (B.rules.getD i zRu).2.length uc) ∧ MRd W0 (.slice ua (B.rules.getD i zRu).2.length uc) (B.rules.getD i zRu).2) := fun i hi => by
    obtain ⟨b, off, e, ⟨d0, _⟩, u, d1, d2⟩ := HRB.out.2.2.1.cells i hi
    obtain ⟨ua, uc, rfl⟩ := d2.shape
    obtain ⟨q1, q2⟩ := ruB_short (hruB _ (mem_getD zRu _ i hi))
    exact ⟨b, off, ua, uc, e, d0, d1, d2.short8 q1 q2⟩
  have HPMB : Hid (∀ i, i < B.perms.length → ∃ b off ua uc va vc, b3 = some ⟨b, off, none⟩ ∧ W0.cell? ⟨b, off + i * 2, none⟩ = some (.slice ua (B.perms.getD i zPm).1.length uc) ∧ W0.cell? ⟨b, off + i * 2 + 1, none⟩ = some (.slice va (B.perms.getD i zPm).2.length vc) ∧ TupL W0 (.slice ua (B.perms.getD i zPm).1.length uc) (B.perms.getD i zPm).1 ∧ TupL W0 (.slice va (B.perms.getD i zPm).2.length vc) (B.perms.getD i zPm).2) := fun i hi => by
    obtain ⟨b, off, e, u, u', d0, d1, d2, d3⟩ := HRB.out.2.2.2.1.cells i hi
    obtain ⟨ua, uc, rfl⟩ := d2.shape
    obtain ⟨va, vc, rfl⟩ := d3.shape
    exact ⟨b, off, ua, uc, va, vc, e, d0, d1, d2, d3⟩
  have HLKB : Hid (∀ i, i < B.looks.length → ∃ b off ua uc va vc, b4 = some ⟨b, off, none⟩ ∧ (∀ wq, On W0 wq → wq.cell? ⟨b, off + i * 4, none⟩ = some (.slice ua (B.looks.getD i zLk).tu.length uc) ∧ wq.cell? ⟨b, off + i * 4 + 1, none⟩ = some (.slice va (B.looks.getD i zLk).ta.length vc) ∧ wq.cell? ⟨b, off + i * 4 + 2, none⟩ = some (.int .u8 (B.looks.getD i zLk).ct.1) ∧ wq.cell? ⟨b, off + i * 4 + 3, none⟩ = some (.int .i64 (B.looks.getD i zLk).ct.2)) ∧ VRw W0 (.slice ua (B.looks.getD i zLk).tu.length uc) (B.looks.getD i zLk).tu ∧ VRw W0 (.slice va (B.looks.getD i zLk).ta.length vc) (B.looks.getD i zLk).ta) := fun i hi => by
    obtain ⟨b, off, e, u, u', d0, d1, d2, d3, d4, d5, d6⟩ := HRB.out.2.2.2.2.cells i hi
    obtain ⟨ua, uc, rfl⟩ := d5.shape
    obtain ⟨va, vc, rfl⟩ := d6.shape
    exact ⟨b, off, ua, uc, va, vc, e, fun wq h => ⟨cell_on h d0, cell_on h d1, cell_on h d2, cell_on h d3⟩, d5, d6⟩
  have q0 : (A.f != B.f) = false := by rw [e0]; simp
  have q1 : (A.rows != B.rows) = false := by rw [e1]; simp
  have q2 : (A.main != B.main) = false := by rw [e2]; simp
  have q3 : (A.pub != B.pub) = false := by rw [e3]; simp
  have q4 : (((A.fixed.length : Nat) : Int) != ((B.fixed.length : Nat) : Int)) = false := by rw [e4]; simp
  have q5 : (((A.rules.length : Nat) : Int) != ((B.rules.length : Nat) : Int)) = false := by rw [e5]; simp
  have q6 : (((A.perms.length : Nat) : Int) != ((B.perms.length : Nat) : Int)) = false := by rw [e6]; simp
  have q7 : (((A.looks.length : Nat) : Int) != ((B.looks.length : Nat) : Int)) = false := by rw [e7]; simp
  have HL5 := Lib.hid e5; have HL6 := Lib.hid e6; have HL7 := Lib.hid e7
  rw [← e5] at HRUB
  rw [← e6] at HPMB
  rw [← e7] at HLKB
  obtain ⟨n1, hq1⟩ : ∃ n1, n1 = A.rules.length := ⟨_, rfl⟩
  obtain ⟨n2, hq2⟩ : ∃ n2, n2 = A.perms.length := ⟨_, rfl⟩
  obtain ⟨n3, hq3⟩ : ∃ n3, n3 = A.looks.length := ⟨_, rfl⟩
  have HN1 := Lib.hid hq1; have HN2 := Lib.hid hq2; have HN3 := Lib.hid hq3
  rw [← hq1] at HRUA HRUB hn1
  rw [← hq2] at HPMA HPMB hn2
  rw [← hq3] at HLKA HLKB hn3
  have HC2 : Hid (∀ wq, On W0 wq → wq.cell? ⟨Q, 5, none⟩ = some (.slice a2 n1 k2) ∧ wq.cell? ⟨Q, 6, none⟩ = some (.slice a3 n2 k3) ∧ wq.cell? ⟨Q, 7, none⟩ = some (.slice a4 n3 k4) ∧ wq.cell? ⟨Q + 1, 5, none⟩ = some (.slice b2 n1 j2) ∧ wq.cell? ⟨Q + 1, 6, none⟩ = some (.slice b3 n2 j3) ∧ wq.cell? ⟨Q + 1, 7, none⟩ = some (.slice b4 n3 j4)) := Lib.hid fun wq h => by
    obtain ⟨_, _, _, _, _, g1, g2, g3⟩ := HSA.out wq h
    obtain ⟨_, _, _, _, _, g4, g5, g6⟩ := HSB.out wq h
    rw [← e5] at g4
    rw [← e6] at g5
    rw [← e7] at g6
    rw [hq1, hq2, hq3]; exact ⟨g1, g2, g3, g4, g5, g6⟩
  clear HRA HRB HVA HVB hszA hruA hpmA hlkA hszB hruB hpmB hlkB f1 f2 f3 f4 f5 f6 f7 f8 f9 fa fb e0 e1 e2 e3 e4 e5 e6 e7 hq1 hq2 hq3
  go_enter Tryd.func29, Tryd.ntmps29
  go_upto_region 1 with fail
  rw [← HW0.out, ← HQ.out]
  obtain ⟨s0, s1, s2, s3, s4, s5, s6, s7⟩ := HSA.out _ HOK.out
  obtain ⟨t0, t1, t2, t3, t4, t5, t6, t7⟩ := HSB.out _ HOK.out
  go_upto_region 3 with fail
  clear s0 s1 s2 s3 s4 s5 s6 s7 t0 t1 t2 t3 t4 t5 t6 t7 q0 q1 q2 q3 q4 q5 q6 q7
  have HEA : Hid (∀ {C : Prop}, ¬ C → (C = shE A B) → ¬ shE A B) := Lib.hid fun h e => e ▸ h
  go_wp2_with fail
  go_loopw [5] (fun vi wr => ∃ k q : Nat, k ≤ n1 ∧ vi = .int .i64 (k : Int) ∧ Hid (∀ j, j < k → A.rules.getD j zRu = B.rules.getD j zRu) ∧ Hid (wr = W0.drewN q)) (fun vi _ => n1 - (intOf vi).toNat)
  case atStart => exact ⟨0, 0, Nat.zero_le _, rfl, fun j hj => by omega, Lib.hid rfl⟩
  case round =>
    rename World => wr
    obtain ⟨k, q, hk, rfl, HK, HO⟩ := hrel
    have HWR : Hid (On W0 wr) := by rw [HO.out]; exact Lib.hid (HOK.out.drewN q)
    obtain ⟨g1, g2, g3, g4, g5, g6⟩ := HC2.out wr HWR.out
    by_cases hlt : k < n1
    · have hlt' : (k : Int) < (n1 : Int) := by omega
      obtain ⟨b1, o1, ua1, uc1, rfl, c0, c1, c2⟩ := HRUA.out k hlt
      obtain ⟨b2, o2, ua2, uc2, rfl, d0, d1, d2⟩ := HRUB.out k hlt
      have hcw : ∀ p, wr.cell? p = W0.cell? p := fun p => by rw [HO.out]; rfl
      have x0 := (hcw _).trans c0
      have x1 := (hcw _).trans c1
      have y0 := (hcw _).trans d0
      have y1 := (hcw _).trans d1
      have HS : Hid ((A.rules.getD k zRu).1 = (B.rules.getD k zRu).1 → (A.rules.getD k zRu).2 = (B.rules.getD k zRu).2 → ∀ j, j < k + 1 → A.rules.getD j zRu = B.rules.getD j zRu) := fun e e' j hj => by
        by_cases h : j = k
        · rw [h]; exact Prod.ext e e'
        · exact HK.out j (by omega)
      have HNE : Hid ((A.rules.getD k zRu).1 ≠ (B.rules.getD k zRu).1 ∨ (A.rules.getD k zRu).2 ≠ (B.rules.getD k zRu).2 → ¬ shE A B) := fun e h => by rcases e with e | e <;> exact e (by rw [h.2.1])
      have HCV : Hid (∀ n, Calls Tryd.prog 79 #[.slice ua1 (A.rules.getD k zRu).2.length uc1, .slice ua2 (B.rules.getD k zRu).2.length uc2] (wr.drewN n) fun e w' => e = .returned (.bool (decide ((A.rules.getD k zRu).2 = (B.rules.getD k zRu).2))) ∧ Drawn (wr.drewN n) w') := fun n => rsamem_any _ _ _ _ _ (by rw [HO.out]; exact c2) (by rw [HO.out]; exact d2)
      clear HK c0 c1 c2 d0 d1 d2 hcw
      generalize (A.rules.getD k zRu).1 = p at *
      generalize (B.rules.getD k zRu).1 = r at *
      generalize (A.rules.getD k zRu).2 = ls at *
      generalize (B.rules.getD k zRu).2 = lt at *
      by_cases hpr : p = r
      · have hb1 : (p != r) = false := by simp [hpr]
        by_cases hxy : ls = lt
        · have HG := Lib.hid (HS.out hpr hxy)
          have hd : decide (ls = lt) = true := decide_eq_true hxy
          rw [hd] at HCV
          clear hd hxy HS HNE hpr
          go_wp2
          go_quiet ((go_at_call 79; exact quiet_of_drawn (HCV.out _)))
          go_wp2
          go_roundw
          case rel => exact ⟨k + 1, q + nq, by omega, by go_num, HG, by unfold Hid; rw [HO.out]; exact World.drewN_drewN _ _ _⟩
          case measure => simp [intOf]; omega
        · have HG := Lib.hid (HNE.out (.inr hxy))
          have hd : decide (ls = lt) = false := decide_eq_false hxy
          rw [hd] at HCV
          clear hd hxy HS HNE hpr
          go_wp2
          go_quiet ((go_at_call 79; exact quiet_of_drawn (HCV.out _)))
          go_wp2
          go_ret
          exact ShPost.no HG.out (HO0.out.trans (HWR.out.drewN _))
      · have hb1 : (p != r) = true := by simpa using hpr
        have HG := Lib.hid (HNE.out (.inl hpr))
        clear HS HNE hpr HCV
        go_wp2
        go_quiet (fail)
        go_wp2
        go_ret
        exact ShPost.no HG.out (HO0.out.trans (HWR.out.drewN _))
    · obtain rfl : n1 = k := by omega
      have HEQ1 : Hid (A.rules = B.rules) := Lib.hid (ext_D zRu HL5.out (by rw [← HN1.out]; exact HK.out))
      clear HK
      go_wp2_with fail
      clear g1 g2 g3 g4 g5 g6
      go_loopw [6] (fun vi wq => ∃ k q : Nat, k ≤ n2 ∧ vi = .int .i64 (k : Int) ∧ Hid (∀ j, j < k → A.perms.getD j zPm = B.perms.getD j zPm) ∧ Hid (wq = W0.drewN q)) (fun vi _ => n2 - (intOf vi).toNat)
      case atStart => exact ⟨0, q, Nat.zero_le _, rfl, fun j hj => by omega, HO⟩
      case round =>
        rename World => wq
        clear HO HWR
        obtain ⟨k, q, hk, rfl, HK, HO⟩ := hrel
        have HWR : Hid (On W0 wq) := by rw [HO.out]; exact Lib.hid (HOK.out.drewN q)
        obtain ⟨g1, g2, g3, g4, g5, g6⟩ := HC2.out wq HWR.out
        by_cases hlt : k < n2
        · have hlt' : (k : Int) < (n2 : Int) := by omega
          obtain ⟨b1, o1, ua1, uc1, va1, vc1, rfl, c0, c1, c2, c3⟩ := HPMA.out k hlt
          obtain ⟨b2, o2, ua2, uc2, va2, vc2, rfl, d0, d1, d2, d3⟩ := HPMB.out k hlt
          have hcw : ∀ p, wq.cell? p = W0.cell? p := fun p => by rw [HO.out]; rfl
          have x0 := (hcw _).trans c0
          have x1 := (hcw _).trans c1
          have y0 := (hcw _).trans d0
          have y1 := (hcw _).trans d1
          have HS : Hid ((A.perms.getD k zPm).1 = (B.perms.getD k zPm).1 → (A.perms.getD k zPm).2 = (B.perms.getD k zPm).2 → ∀ j, j < k + 1 → A.perms.getD j zPm = B.perms.getD j zPm) := fun e e' j hj => by
            by_cases h : j = k
            · rw [h]; exact Prod.ext e e'
            · exact HK.out j (by omega)
          have HNE : Hid ((A.perms.getD k zPm).1 ≠ (B.perms.getD k zPm).1 ∨ (A.perms.getD k zPm).2 ≠ (B.perms.getD k zPm).2 → ¬ shE A B) := fun e h => by rcases e with e | e <;> exact e (by rw [h.2.2.1])
          have HCL : Hid (∀ n, Calls Tryd.prog 80 #[.slice ua1 (A.perms.getD k zPm).1.length uc1, .slice ua2 (B.perms.getD k zPm).1.length uc2] (wq.drewN n) fun e w' => e = .returned (.bool (decide ((A.perms.getD k zPm).1 = (B.perms.getD k zPm).1))) ∧ Drawn (wq.drewN n) w') := fun n => rsamet13_any _ _ _ _ _ (HWR.out.drewN n).tab (c2.on (HWR.out.drewN n)) (d2.on (HWR.out.drewN n))
          have HCR : Hid (∀ n, Calls Tryd.prog 80 #[.slice va1 (A.perms.getD k zPm).2.length vc1, .slice va2 (B.perms.getD k zPm).2.length vc2] (wq.drewN n) fun e w' => e = .returned (.bool (decide ((A.perms.getD k zPm).2 = (B.perms.getD k zPm).2))) ∧ Drawn (wq.drewN n) w') := fun n => rsamet13_any _ _ _ _ _ (HWR.out.drewN n).tab (c3.on (HWR.out.drewN n)) (d3.on (HWR.out.drewN n))
          clear HK c0 c1 c2 c3 d0 d1 d2 d3 hcw
          generalize (A.perms.getD k zPm).1 = pl at *
          generalize (B.perms.getD k zPm).1 = rl at *
          generalize (A.perms.getD k zPm).2 = pr at *
          generalize (B.perms.getD k zPm).2 = rr at *
          by_cases hpr : pl = rl
          · have hd1 : decide (pl = rl) = true := decide_eq_true hpr
            by_cases hxy : pr = rr
            · have HG := Lib.hid (HS.out hpr hxy)
              have hd : decide (pr = rr) = true := decide_eq_true hxy
              rw [hd] at HCR
              rw [hd1] at HCL
              clear hd hd1 hxy HS HNE hpr
              go_wp2
              go_quiet ((go_at_call 80; first | (with_reducible exact quiet_of_drawn (HCL.out _)) | (with_reducible exact quiet_of_drawn (HCR.out _))))
              go_wp2
              go_roundw
              case rel => exact ⟨k + 1, q + nq, by omega, by go_num, HG, by unfold Hid; rw [HO.out]; exact World.drewN_drewN _ _ _⟩
              case measure => simp [intOf]; omega
            · have HG := Lib.hid (HNE.out (.inr hxy))
              have hd : decide (pr = rr) = false := decide_eq_false hxy
              rw [hd] at HCR
              rw [hd1] at HCL
              clear hd hd1 hxy HS HNE hpr
              go_wp2
              go_quiet ((go_at_call 80; first | (with_reducible exact quiet_of_drawn (HCL.out _)) | (with_reducible exact quiet_of_drawn (HCR.out _))))
              go_wp2
              go_ret
              exact ShPost.no HG.out (HO0.out.trans (HWR.out.drewN _))
          · have hd1 : decide (pl = rl) = false := decide_eq_false hpr
            have HG := Lib.hid (HNE.out (.inl hpr))
            rw [hd1] at HCL
            clear HS HNE hpr HCR hd1
            go_wp2
            go_quiet ((go_at_call 80; exact quiet_of_drawn (HCL.out _)))
            go_wp2
            go_ret
            exact ShPost.no HG.out (HO0.out.trans (HWR.out.drewN _))
        · obtain rfl : n2 = k := by omega
          have HEQ2 : Hid (A.perms = B.perms) := Lib.hid (ext_D zPm HL6.out (by rw [← HN2.out]; exact HK.out))
          clear HK
          go_wp2_with fail
          clear g1 g2 g3 g4 g5 g6
          go_loopw [7] (fun vi wz => ∃ k : Nat, k ≤ n3 ∧ vi = .int .i64 (k : Int) ∧ Hid (∀ j, j < k → A.looks.getD j zLk = B.looks.getD j zLk) ∧ Hid (On W0 wz)) (fun vi _ => n3 - (intOf vi).toNat)
          case atStart => exact ⟨0, Nat.zero_le _, rfl, fun j hj => by omega, HWR⟩
          case round =>
            rename World => wz
            clear HO HWR
            obtain ⟨k, hk, rfl, HK, HWR⟩ := hrel
            obtain ⟨g1, g2, g3, g4, g5, g6⟩ := HC2.out wz HWR.out
            by_cases hlt : k < n3
            · have hlt' : (k : Int) < (n3 : Int) := by omega
              obtain ⟨b1, o1, ua1, uc1, va1, vc1, rfl, hx, ht1, ht2⟩ := HLKA.out k hlt
              obtain ⟨b2, o2, ua2, uc2, va2, vc2, rfl, hy, ht3, ht4⟩ := HLKB.out k hlt
              have HS : Hid ((A.looks.getD k zLk).tu = (B.looks.getD k zLk).tu → (A.looks.getD k zLk).ta = (B.looks.getD k zLk).ta → ((A.looks.getD k zLk).ct.1, (A.looks.getD k zLk).ct.2) = ((B.looks.getD k zLk).ct.1, (B.looks.getD k zLk).ct.2) → ∀ j, j < k + 1 → A.looks.getD j zLk = B.looks.getD j zLk) := fun e e' e2 j hj => by
                by_cases h : j = k
                · rw [h]
                  generalize A.looks.getD k zLk = X at *
                  generalize B.looks.getD k zLk = Y at *
                  obtain ⟨x1, x2, x3⟩ := X
                  obtain ⟨y1, y2, y3⟩ := Y
                  simp only at e e' e2
                  rw [e, e', show x3 = y3 from e2]
                · exact HK.out j (by omega)
              have HNE : Hid ((A.looks.getD k zLk).tu ≠ (B.looks.getD k zLk).tu ∨ (A.looks.getD k zLk).ta ≠ (B.looks.getD k zLk).ta ∨ ((A.looks.getD k zLk).ct.1, (A.looks.getD k zLk).ct.2) ≠ ((B.looks.getD k zLk).ct.1, (B.looks.getD k zLk).ct.2) → ¬ shE A B) := fun e h => by rcases e with e | e | e <;> exact e (by rw [h.2.2.2])
              have heq := eq_vr ((A.looks.getD k zLk).ct.1, (A.looks.getD k zLk).ct.2) ((B.looks.getD k zLk).ct.1, (B.looks.getD k zLk).ct.2)
              have HTU : Hid (∀ wq, On W0 wq → Calls Tryd.prog 81 #[.slice ua1 (A.looks.getD k zLk).tu.length uc1, .slice ua2 (B.looks.getD k zLk).tu.length uc2] wq fun e w' => e = .returned (.bool (decide ((A.looks.getD k zLk).tu = (B.looks.getD k zLk).tu))) ∧ Drawn wq w') := Lib.hid fun wq h => rsamev13_any _ _ _ _ _ (ht1.on h) (ht3.on h)
              have HTA : Hid (∀ wq, On W0 wq → Calls Tryd.prog 81 #[.slice va1 (A.looks.getD k zLk).ta.length vc1, .slice va2 (B.looks.getD k zLk).ta.length vc2] wq fun e w' => e = .returned (.bool (decide ((A.looks.getD k zLk).ta = (B.looks.getD k zLk).ta))) ∧ Drawn wq w') := Lib.hid fun wq h => rsamev13_any _ _ _ _ _ (ht2.on h) (ht4.on h)
              have HXC := Lib.hid hx
              have HYC := Lib.hid hy
              clear HK hx hy ht1 ht2 ht3 ht4
              generalize (A.looks.getD k zLk).tu = tu1 at *
              generalize (B.looks.getD k zLk).tu = tu2 at *
              generalize (A.looks.getD k zLk).ta = ta1 at *
              generalize (B.looks.getD k zLk).ta = ta2 at *
              generalize (A.looks.getD k zLk).ct.1 = ck1 at *
              generalize (A.looks.getD k zLk).ct.2 = ci1 at *
              generalize (B.looks.getD k zLk).ct.1 = ck2 at *
              generalize (B.looks.getD k zLk).ct.2 = ci2 at *
              generalize hz1 : tu1.length = tn1 at *
              generalize hz2 : tu2.length = tn2 at *
              generalize hz3 : ta1.length = sn1 at *
              generalize hz4 : ta2.length = sn2 at *
              clear hz1 hz2 hz3 hz4
              simp only [vrV] at heq
              go_upto_region 16 with fail
              obtain ⟨V0, hV0⟩ : ∃ V0, V0 = wz.drew := ⟨_, rfl⟩
              have hSd : On W0 V0 := by rw [hV0]; exact HWR.out.drew
              refine region_head_tail (S := fun wx => On W0 wx) 13 (by kernel_rfl) (by kernel_rfl) ?_
              rw [← hV0]
              clear hV0
              refine HeadG.take (i := 0) (v := ?hv1m0) rfl (by kernel_rfl) (by kernel_rfl) (by kernel_rfl) (by kernel_rfl) (by kernel_rfl) (by kernel_rfl) (by kernel_rfl) (fun _ _ _ h => h) (Or.inl ⟨by rfl, ?hy1m0⟩) hSd ?hr1m0
              case hy1m0 => (intro w' hSw; obtain ⟨g1, g2, g3, g4, g5, g6⟩ := HC2.out w' hSw; obtain ⟨x0, x1, x2, x3⟩ := HXC.out w' hSw; obtain ⟨y0, y1, y2, y3⟩ := HYC.out w' hSw; go_simp; try with_reducible rfl)
              try simp only [Act.put, List.setIfInBounds_toArray, List.set_cons_zero, List.set_cons_succ, List.getElem_toArray, List.getElem_cons_zero, List.getElem_cons_succ]
              refine HeadG.take (i := 1) (v := ?hv2m1) rfl (by kernel_rfl) (by kernel_rfl) (by kernel_rfl) (by kernel_rfl) (by kernel_rfl) (by kernel_rfl) (by kernel_rfl) (fun _ _ _ h => h) (Or.inl ⟨by rfl, ?hy2m1⟩) hSd ?hr2m1
              case hy2m1 => (intro w' hSw; obtain ⟨g1, g2, g3, g4, g5, g6⟩ := HC2.out w' hSw; obtain ⟨x0, x1, x2, x3⟩ := HXC.out w' hSw; obtain ⟨y0, y1, y2, y3⟩ := HYC.out w' hSw; go_simp; try with_reducible rfl)
              try simp only [Act.put, List.setIfInBounds_toArray, List.set_cons_zero, List.set_cons_succ, List.getElem_toArray, List.getElem_cons_zero, List.getElem_cons_succ]
              refine HeadG.take (i := 2) (v := ?hv3m2) rfl (by kernel_rfl) (by kernel_rfl) (by kernel_rfl) (by kernel_rfl) (by kernel_rfl) (by kernel_rfl) (by kernel_rfl) (fun _ _ _ h => h) (Or.inl ⟨by rfl, ?hy3m2⟩) hSd ?hr3m2
              case hy3m2 => (intro w' hSw; obtain ⟨g1, g2, g3, g4, g5, g6⟩ := HC2.out w' hSw; obtain ⟨x0, x1, x2, x3⟩ := HXC.out w' hSw; obtain ⟨y0, y1, y2, y3⟩ := HYC.out w' hSw; go_simp; try with_reducible rfl)
              try simp only [Act.put, List.setIfInBounds_toArray, List.set_cons_zero, List.set_cons_succ, List.getElem_toArray, List.getElem_cons_zero, List.getElem_cons_succ]
              refine HeadG.take (i := 3) (v := ?hv4m3) rfl (by kernel_rfl) (by kernel_rfl) (by kernel_rfl) (by kernel_rfl) (by kernel_rfl) (by kernel_rfl) (by kernel_rfl) (fun _ _ _ h => h) (Or.inl ⟨by rfl, ?hy4m3⟩) hSd ?hr4m3
              case hy4m3 => (intro w' hSw; obtain ⟨g1, g2, g3, g4, g5, g6⟩ := HC2.out w' hSw; obtain ⟨x0, x1, x2, x3⟩ := HXC.out w' hSw; obtain ⟨y0, y1, y2, y3⟩ := HYC.out w' hSw; go_simp; try with_reducible rfl)
              try simp only [Act.put, List.setIfInBounds_toArray, List.set_cons_zero, List.set_cons_succ, List.getElem_toArray, List.getElem_cons_zero, List.getElem_cons_succ]
              refine HeadG.take (i := 4) (v := .agg #[.slice ua1 tn1 uc1, .slice va1 sn1 vc1, .int .u8 ck1, .int .i64 ci1]) rfl (by kernel_rfl) (by kernel_rfl) (by kernel_rfl) (by kernel_rfl) (by kernel_rfl) (by kernel_rfl) (by kernel_rfl) (fun _ _ _ h => h) (Or.inl ⟨by rfl, ?hy5m4⟩) hSd ?hr5m4
              case hy5m4 => (intro w' hSw; obtain ⟨g1, g2, g3, g4, g5, g6⟩ := HC2.out w' hSw; obtain ⟨x0, x1, x2, x3⟩ := HXC.out w' hSw; obtain ⟨y0, y1, y2, y3⟩ := HYC.out w' hSw; go_simp; try with_reducible rfl)
              try simp only [Act.put, List.setIfInBounds_toArray, List.set_cons_zero, List.set_cons_succ, List.getElem_toArray, List.getElem_cons_zero, List.getElem_cons_succ]
              refine HeadG.take (i := 5) (v := ?hv6m5) rfl (by kernel_rfl) (by kernel_rfl) (by kernel_rfl) (by kernel_rfl) (by kernel_rfl) (by kernel_rfl) (by kernel_rfl) (fun _ _ _ h => h) (Or.inl ⟨by rfl, ?hy6m5⟩) hSd ?hr6m5
              case hy6m5 => (intro w' hSw; obtain ⟨g1, g2, g3, g4, g5, g6⟩ := HC2.out w' hSw; obtain ⟨x0, x1, x2, x3⟩ := HXC.out w' hSw; obtain ⟨y0, y1, y2, y3⟩ := HYC.out w' hSw; go_simp; try with_reducible rfl)
              try simp only [Act.put, List.setIfInBounds_toArray, List.set_cons_zero, List.set_cons_succ, List.getElem_toArray, List.getElem_cons_zero, List.getElem_cons_succ]
              refine HeadG.take (i := 6) (v := ?hv7m6) rfl (by kernel_rfl) (by kernel_rfl) (by kernel_rfl) (by kernel_rfl) (by kernel_rfl) (by kernel_rfl) (by kernel_rfl) (fun _ _ _ h => h) (Or.inl ⟨by rfl, ?hy7m6⟩) hSd ?hr7m6
              case hy7m6 => (intro w' hSw; obtain ⟨g1, g2, g3, g4, g5, g6⟩ := HC2.out w' hSw; obtain ⟨x0, x1, x2, x3⟩ := HXC.out w' hSw; obtain ⟨y0, y1, y2, y3⟩ := HYC.out w' hSw; go_simp; try with_reducible rfl)
              try simp only [Act.put, List.setIfInBounds_toArray, List.set_cons_zero, List.set_cons_succ, List.getElem_toArray, List.getElem_cons_zero, List.getElem_cons_succ]
              refine HeadG.take (i := 7) (v := ?hv8m7) rfl (by kernel_rfl) (by kernel_rfl) (by kernel_rfl) (by kernel_rfl) (by kernel_rfl) (by kernel_rfl) (by kernel_rfl) (fun _ _ _ h => h) (Or.inl ⟨by rfl, ?hy8m7⟩) hSd ?hr8m7
              case hy8m7 => (intro w' hSw; obtain ⟨g1, g2, g3, g4, g5, g6⟩ := HC2.out w' hSw; obtain ⟨x0, x1, x2, x3⟩ := HXC.out w' hSw; obtain ⟨y0, y1, y2, y3⟩ := HYC.out w' hSw; go_simp; try with_reducible rfl)
              try simp only [Act.put, List.setIfInBounds_toArray, List.set_cons_zero, List.set_cons_succ, List.getElem_toArray, List.getElem_cons_zero, List.getElem_cons_succ]
              refine HeadG.take (i := 8) (v := ?hv9m8) rfl (by kernel_rfl) (by kernel_rfl) (by kernel_rfl) (by kernel_rfl) (by kernel_rfl) (by kernel_rfl) (by kernel_rfl) (fun _ _ _ h => h) (Or.inl ⟨by rfl, ?hy9m8⟩) hSd ?hr9m8
              case hy9m8 => (intro w' hSw; obtain ⟨g1, g2, g3, g4, g5, g6⟩ := HC2.out w' hSw; obtain ⟨x0, x1, x2, x3⟩ := HXC.out w' hSw; obtain ⟨y0, y1, y2, y3⟩ := HYC.out w' hSw; go_simp; try with_reducible rfl)
              try simp only [Act.put, List.setIfInBounds_toArray, List.set_cons_zero, List.set_cons_succ, List.getElem_toArray, List.getElem_cons_zero, List.getElem_cons_succ]
              refine HeadG.take (i := 9) (v := .agg #[.slice ua2 tn2 uc2, .slice va2 sn2 vc2, .int .u8 ck2, .int .i64 ci2]) rfl (by kernel_rfl) (by kernel_rfl) (by kernel_rfl) (by kernel_rfl) (by kernel_rfl) (by kernel_rfl) (by kernel_rfl) (fun _ _ _ h => h) (Or.inl ⟨by rfl, ?hy10m9⟩) hSd ?hr10m9
              case hy10m9 => (intro w' hSw; obtain ⟨g1, g2, g3, g4, g5, g6⟩ := HC2.out w' hSw; obtain ⟨x0, x1, x2, x3⟩ := HXC.out w' hSw; obtain ⟨y0, y1, y2, y3⟩ := HYC.out w' hSw; go_simp; try with_reducible rfl)
              try simp only [Act.put, List.setIfInBounds_toArray, List.set_cons_zero, List.set_cons_succ, List.getElem_toArray, List.getElem_cons_zero, List.getElem_cons_succ]
              refine HeadG.fork2 (i := 10) (j := 11) rfl rfl (by kernel_rfl) (by kernel_rfl) (by kernel_rfl) (fun K9 hK9 => ?_) (fun K9 hK9 => ?_)
              · go_simp
                have hA1 : On V0 (V0.alloc (.cells #[.slice none 0 0, .slice none 0 0, .int .u8 0, .int .i64 0] 63)) := (On.refl hSd.tab).alloc _
                have hB1 : VB V0.heap.size (V0.alloc (.cells #[.slice none 0 0, .slice none 0 0, .int .u8 0, .int .i64 0] 63)) [.slice none 0 0, .slice none 0 0, .int .u8 0, .int .i64 0] := vb_new V0 _ _
                refine hK9.out _ _ (hSd.trans hA1) ?_
                clear hK9 K9
                try simp only [Act.put, List.setIfInBounds_toArray, List.set_cons_zero, List.set_cons_succ, List.getElem_toArray, List.getElem_cons_zero, List.getElem_cons_succ]
                obtain ⟨V1, hV1⟩ : ∃ V1, V1 = V0.alloc (.cells #[.slice none 0 0, .slice none 0 0, .int .u8 0, .int .i64 0] 63) := ⟨_, rfl⟩
                rw [← hV1] at hA1 hB1
                rw [← hV1]
                have hSV1 := hSd.trans hA1
                clear hV1
                refine HeadG.one (i := 11) rfl (by kernel_rfl) (by kernel_rfl) (fun K9 hK9 => ?_)
                go_simp
                have hA2 : On V1 (V1.alloc (.cells #[.slice none 0 0, .slice none 0 0, .int .u8 0, .int .i64 0] 63)) := (On.refl hSV1.tab).alloc _
                have hB2 : VB V1.heap.size (V1.alloc (.cells #[.slice none 0 0, .slice none 0 0, .int .u8 0, .int .i64 0] 63)) [.slice none 0 0, .slice none 0 0, .int .u8 0, .int .i64 0] := vb_new V1 _ _
                refine hK9.out _ _ (hSV1.trans hA2) ?_
                clear hK9 K9
                try simp only [Act.put, List.setIfInBounds_toArray, List.set_cons_zero, List.set_cons_succ, List.getElem_toArray, List.getElem_cons_zero, List.getElem_cons_succ]
                obtain ⟨V2, hV2⟩ : ∃ V2, V2 = V1.alloc (.cells #[.slice none 0 0, .slice none 0 0, .int .u8 0, .int .i64 0] 63) := ⟨_, rfl⟩
                rw [← hV2] at hA2 hB2
                rw [← hV2]
                have hSV2 := hSV1.trans hA2
                clear hV2
                have hONV2 := hSV2
                obtain ⟨g, hgE⟩ : ∃ g, g = V0.heap.size := ⟨_, rfl⟩
                obtain ⟨h, hhE⟩ : ∃ h, h = V1.heap.size := ⟨_, rfl⟩
                have HGv : Hid (VB g V2 [.slice none 0 0, .slice none 0 0, .int .u8 0, .int .i64 0]) := by rw [hgE]; exact Lib.hid (hB1.on hA2)
                have HHv : Hid (VB h V2 [.slice none 0 0, .slice none 0 0, .int .u8 0, .int .i64 0]) := by rw [hhE]; exact Lib.hid hB2
                have hgh : g ≠ h := by rw [hgE, hhE]; have := hB1.1; omega
                have hg2 : W0.heap.size ≤ g := by rw [hgE]; exact hSd.size
                have hh2 : W0.heap.size ≤ h := by rw [hhE]; exact hSV1.size
                rw [← hgE, ← hhE]
                clear hgE hhE
                have z0 := HGv.out.2.1 0 _ rfl; have z1 := HGv.out.2.1 1 _ rfl; have z2 := HGv.out.2.1 2 _ rfl; have z3 := HGv.out.2.1 3 _ rfl
                have r0 := HGv.out.2.2 0; have r1 := HGv.out.2.2 1; have r2 := HGv.out.2.2 2; have r3 := HGv.out.2.2 3
                obtain ⟨Va, hVn⟩ : ∃ Va, Va = ((((V2.setCell ⟨g, 0, none⟩ (.slice ua1 tn1 uc1)).setCell ⟨g, 1, none⟩ (.slice va1 sn1 vc1)).setCell ⟨g, 2, none⟩ (.int .u8 ck1)).setCell ⟨g, 3, none⟩ (.int .i64 ci1)) := ⟨_, rfl⟩
                have HGa : Hid (VB g Va [.slice ua1 tn1 uc1, .slice va1 sn1 vc1, .int .u8 ck1, .int .i64 ci1]) := by rw [hVn]; exact Lib.hid ((((HGv.out.set 0 (.slice ua1 tn1 uc1) (by simp)).set 1 (.slice va1 sn1 vc1) (by simp)).set 2 (.int .u8 ck1) (by simp)).set 3 (.int .i64 ci1) (by simp))
                have HHa : Hid (VB h Va [.slice none 0 0, .slice none 0 0, .int .u8 0, .int .i64 0]) := by rw [hVn]; exact Lib.hid ((((HHv.out.other ⟨g, 0, none⟩ (by simp; omega) (.slice ua1 tn1 uc1)).other ⟨g, 1, none⟩ (by simp; omega) (.slice va1 sn1 vc1)).other ⟨g, 2, none⟩ (by simp; omega) (.int .u8 ck1)).other ⟨g, 3, none⟩ (by simp; omega) (.int .i64 ci1))
                have hONVa : On W0 Va := by rw [hVn]; exact ((((hONV2.setCell hg2 (.slice ua1 tn1 uc1)).setCell hg2 (.slice va1 sn1 vc1)).setCell hg2 (.int .u8 ck1)).setCell hg2 (.int .i64 ci1))
                refine HeadG.one (i := 12) rfl (by kernel_rfl) (by kernel_rfl) (fun K9 hK9 => ?_)
                go_simp
                rw [← hVn]
                refine hK9.out _ _ hONVa ?_
                clear hK9 K9 hVn z0 z1 z2 z3 r0 r1 r2 r3
                try simp only [Act.put, List.setIfInBounds_toArray, List.set_cons_zero, List.set_cons_succ, List.getElem_toArray, List.getElem_cons_zero, List.getElem_cons_succ]
                have z0 := HHa.out.2.1 0 _ rfl; have z1 := HHa.out.2.1 1 _ rfl; have z2 := HHa.out.2.1 2 _ rfl; have z3 := HHa.out.2.1 3 _ rfl
                have r0 := HHa.out.2.2 0; have r1 := HHa.out.2.2 1; have r2 := HHa.out.2.2 2; have r3 := HHa.out.2.2 3
                obtain ⟨Vb, hVn⟩ : ∃ Vb, Vb = ((((Va.setCell ⟨h, 0, none⟩ (.slice ua2 tn2 uc2)).setCell ⟨h, 1, none⟩ (.slice va2 sn2 vc2)).setCell ⟨h, 2, none⟩ (.int .u8 ck2)).setCell ⟨h, 3, none⟩ (.int .i64 ci2)) := ⟨_, rfl⟩
                have HHb : Hid (VB h Vb [.slice ua2 tn2 uc2, .slice va2 sn2 vc2, .int .u8 ck2, .int .i64 ci2]) := by rw [hVn]; exact Lib.hid ((((HHa.out.set 0 (.slice ua2 tn2 uc2) (by simp)).set 1 (.slice va2 sn2 vc2) (by simp)).set 2 (.int .u8 ck2) (by simp)).set 3 (.int .i64 ci2) (by simp))
                have HGb : Hid (VB g Vb [.slice ua1 tn1 uc1, .slice va1 sn1 vc1, .int .u8 ck1, .int .i64 ci1]) := by rw [hVn]; exact Lib.hid ((((HGa.out.other ⟨h, 0, none⟩ (by simp; omega) (.slice ua2 tn2 uc2)).other ⟨h, 1, none⟩ (by simp; omega) (.slice va2 sn2 vc2)).other ⟨h, 2, none⟩ (by simp; omega) (.int .u8 ck2)).other ⟨h, 3, none⟩ (by simp; omega) (.int .i64 ci2))
                have hONVb : On W0 Vb := by rw [hVn]; exact ((((hONVa.setCell hh2 (.slice ua2 tn2 uc2)).setCell hh2 (.slice va2 sn2 vc2)).setCell hh2 (.int .u8 ck2)).setCell hh2 (.int .i64 ci2))
                refine HeadG.last (i := 13) rfl (by kernel_rfl) (by kernel_rfl) (by kernel_rfl) (fun K9 hK9 => ?_)
                go_simp
                rw [← hVn]
                refine hK9.out _ _ ?_
                clear hK9 K9 hVn z0 z1 z2 z3 r0 r1 r2 r3
                try simp only [Act.put, List.setIfInBounds_toArray, List.set_cons_zero, List.set_cons_succ, List.getElem_toArray, List.getElem_cons_zero, List.getElem_cons_succ]
                have HGB : Hid (∀ wq, On Vb wq → wq.cell? ⟨g, 0, none⟩ = some (.slice ua1 tn1 uc1) ∧ wq.cell? ⟨g, 1, none⟩ = some (.slice va1 sn1 vc1) ∧ wq.cell? ⟨g, 2, none⟩ = some (.int .u8 ck1) ∧ wq.cell? ⟨g, 3, none⟩ = some (.int .i64 ci1) ∧ wq.cell? ⟨h, 0, none⟩ = some (.slice ua2 tn2 uc2) ∧ wq.cell? ⟨h, 1, none⟩ = some (.slice va2 sn2 vc2) ∧ wq.cell? ⟨h, 2, none⟩ = some (.int .u8 ck2) ∧ wq.cell? ⟨h, 3, none⟩ = some (.int .i64 ci2)) := Lib.hid fun wq hq => ⟨(HGb.out.on hq).2.1 0 _ rfl, (HGb.out.on hq).2.1 1 _ rfl, (HGb.out.on hq).2.1 2 _ rfl, (HGb.out.on hq).2.1 3 _ rfl, (HHb.out.on hq).2.1 0 _ rfl, (HHb.out.on hq).2.1 1 _ rfl, (HHb.out.on hq).2.1 2 _ rfl, (HHb.out.on hq).2.1 3 _ rfl⟩
                have HVB := Lib.hid hONVb
                have HVR : Hid (On Vb Vb) := Lib.hid (On.refl hONVb.tab)
                obtain ⟨m0, m1, m2, m3, m4, m5, m6, m7⟩ := HGB.out Vb HVR.out
                clear hSd hgh hg2 hh2 hONVa hONVb HGa HGb HHa HHb HGv HHv hA1 hB1 hA2 hB2 hSV1 hSV2 g1 g2 g3 g4 g5 g6
                have HT1 : Hid (∀ wq, On Vb wq → Calls Tryd.prog 81 #[.slice ua1 tn1 uc1, .slice ua2 tn2 uc2] wq fun e w' => e = .returned (.bool (decide (tu1 = tu2))) ∧ On Vb w') := Lib.hid fun wq hq => (HTU.out wq (HVB.out.trans hq)).mono fun e w' ⟨he, ho⟩ => ⟨he, (by obtain ⟨n, hn⟩ := ho; rw [hn]; exact hq.drewN n)⟩
                have HT2 : Hid (∀ wq, On Vb wq → Calls Tryd.prog 81 #[.slice va1 sn1 vc1, .slice va2 sn2 vc2] wq fun e w' => e = .returned (.bool (decide (ta1 = ta2))) ∧ On Vb w') := Lib.hid fun wq hq => (HTA.out wq (HVB.out.trans hq)).mono fun e w' ⟨he, ho⟩ => ⟨he, (by obtain ⟨n, hn⟩ := ho; rw [hn]; exact hq.drewN n)⟩
                by_cases ht1 : tu1 = tu2
                rotate_left
                · have HG := Lib.hid (HNE.out (.inl ht1))
                  rw [decide_eq_false ht1] at HT1
                  clear HS HNE ht1 HT2 heq
                  go_wp2_with (go_at_call 81; (with_reducible refine (HT1.out _ HVR.out).mono ?_); rintro e wa ⟨rfl, hoa⟩)
                  go_ret
                  exact ShPost.no HG.out (HO0.out.trans (HVB.out.trans hoa))
                have HE1 := Lib.hid ht1
                rw [decide_eq_true ht1] at HT1
                clear ht1
                by_cases ht2 : ta1 = ta2
                rotate_left
                · have HG := Lib.hid (HNE.out (.inr (.inl ht2)))
                  rw [decide_eq_false ht2] at HT2
                  clear HS HNE ht2 heq
                  go_wp2_with (first
                    | (go_at_call 81; (with_reducible refine (HT1.out _ HVR.out).mono ?_); rintro e wa ⟨rfl, hoa⟩; obtain ⟨m0, m1, m2, m3, m4, m5, m6, m7⟩ := HGB.out wa hoa)
                    | (go_at_call 81; (with_reducible refine (HT2.out _ hoa).mono ?_); rintro e wb ⟨rfl, hob⟩)
                    | fail)
                  go_ret
                  exact ShPost.no HG.out (HO0.out.trans (HVB.out.trans hob))
                have HE2 := Lib.hid ht2
                rw [decide_eq_true ht2] at HT2
                clear ht2
                by_cases ht3 : ((ck1, ci1) : Vr) = (ck2, ci2)
                rotate_left
                · have HG := Lib.hid (HNE.out (.inr (.inr ht3)))
                  rw [decide_eq_false ht3] at heq
                  clear HS HNE ht3
                  go_wp2_with (first
                    | (go_at_call 81; (with_reducible refine (HT1.out _ HVR.out).mono ?_); rintro e wa ⟨rfl, hoa⟩; obtain ⟨m0, m1, m2, m3, m4, m5, m6, m7⟩ := HGB.out wa hoa)
                    | (go_at_call 81; (with_reducible refine (HT2.out _ hoa).mono ?_); rintro e wb ⟨rfl, hob⟩; obtain ⟨m0, m1, m2, m3, m4, m5, m6, m7⟩ := HGB.out wb hob)
                    | fail)
                  go_ret
                  exact ShPost.no HG.out (HO0.out.trans (HVB.out.trans hob))
                have HG := Lib.hid (HS.out HE1.out HE2.out ht3)
                rw [decide_eq_true ht3] at heq
                clear HS HNE ht3
                go_wp2_with (first
                  | (go_at_call 81; (with_reducible refine (HT1.out _ HVR.out).mono ?_); rintro e wa ⟨rfl, hoa⟩; obtain ⟨m0, m1, m2, m3, m4, m5, m6, m7⟩ := HGB.out wa hoa)
                  | (go_at_call 81; (with_reducible refine (HT2.out _ hoa).mono ?_); rintro e wb ⟨rfl, hob⟩; obtain ⟨m0, m1, m2, m3, m4, m5, m6, m7⟩ := HGB.out wb hob)
                  | fail)
                have HOB := Lib.hid (HVB.out.trans hob)
                go_roundw
                case rel => exact ⟨k + 1, by omega, by simp, HG, HOB⟩
                case measure => simp [intOf]; omega
              · go_simp
                have hA1 : On V0 (V0.alloc (.cells #[.slice none 0 0, .slice none 0 0, .int .u8 0, .int .i64 0] 63)) := (On.refl hSd.tab).alloc _
                have hB1 : VB V0.heap.size (V0.alloc (.cells #[.slice none 0 0, .slice none 0 0, .int .u8 0, .int .i64 0] 63)) [.slice none 0 0, .slice none 0 0, .int .u8 0, .int .i64 0] := vb_new V0 _ _
                refine hK9.out _ _ (hSd.trans hA1) ?_
                clear hK9 K9
                try simp only [Act.put, List.setIfInBounds_toArray, List.set_cons_zero, List.set_cons_succ, List.getElem_toArray, List.getElem_cons_zero, List.getElem_cons_succ]
                obtain ⟨V1, hV1⟩ : ∃ V1, V1 = V0.alloc (.cells #[.slice none 0 0, .slice none 0 0, .int .u8 0, .int .i64 0] 63) := ⟨_, rfl⟩
                rw [← hV1] at hA1 hB1
                rw [← hV1]
                have hSV1 := hSd.trans hA1
                clear hV1
                refine HeadG.one (i := 10) rfl (by kernel_rfl) (by kernel_rfl) (fun K9 hK9 => ?_)
                go_simp
                have hA2 : On V1 (V1.alloc (.cells #[.slice none 0 0, .slice none 0 0, .int .u8 0, .int .i64 0] 63)) := (On.refl hSV1.tab).alloc _
                have hB2 : VB V1.heap.size (V1.alloc (.cells #[.slice none 0 0, .slice none 0 0, .int .u8 0, .int .i64 0] 63)) [.slice none 0 0, .slice none 0 0, .int .u8 0, .int .i64 0] := vb_new V1 _ _
                refine hK9.out _ _ (hSV1.trans hA2) ?_
                clear hK9 K9
                try simp only [Act.put, List.setIfInBounds_toArray, List.set_cons_zero, List.set_cons_succ, List.getElem_toArray, List.getElem_cons_zero, List.getElem_cons_succ]
                obtain ⟨V2, hV2⟩ : ∃ V2, V2 = V1.alloc (.cells #[.slice none 0 0, .slice none 0 0, .int .u8 0, .int .i64 0] 63) := ⟨_, rfl⟩
                rw [← hV2] at hA2 hB2
                rw [← hV2]
                have hSV2 := hSV1.trans hA2
                clear hV2
                have hONV2 := hSV2
                obtain ⟨g, hgE⟩ : ∃ g, g = V1.heap.size := ⟨_, rfl⟩
                obtain ⟨h, hhE⟩ : ∃ h, h = V0.heap.size := ⟨_, rfl⟩
                have HGv : Hid (VB g V2 [.slice none 0 0, .slice none 0 0, .int .u8 0, .int .i64 0]) := by rw [hgE]; exact Lib.hid hB2
                have HHv : Hid (VB h V2 [.slice none 0 0, .slice none 0 0, .int .u8 0, .int .i64 0]) := by rw [hhE]; exact Lib.hid (hB1.on hA2)
                have hgh : g ≠ h := by rw [hgE, hhE]; have := hB1.1; omega
                have hg2 : W0.heap.size ≤ g := by rw [hgE]; exact hSV1.size
                have hh2 : W0.heap.size ≤ h := by rw [hhE]; exact hSd.size
                rw [← hgE, ← hhE]
                clear hgE hhE
                have z0 := HGv.out.2.1 0 _ rfl; have z1 := HGv.out.2.1 1 _ rfl; have z2 := HGv.out.2.1 2 _ rfl; have z3 := HGv.out.2.1 3 _ rfl
                have r0 := HGv.out.2.2 0; have r1 := HGv.out.2.2 1; have r2 := HGv.out.2.2 2; have r3 := HGv.out.2.2 3
                obtain ⟨Va, hVn⟩ : ∃ Va, Va = ((((V2.setCell ⟨g, 0, none⟩ (.slice ua1 tn1 uc1)).setCell ⟨g, 1, none⟩ (.slice va1 sn1 vc1)).setCell ⟨g, 2, none⟩ (.int .u8 ck1)).setCell ⟨g, 3, none⟩ (.int .i64 ci1)) := ⟨_, rfl⟩
                have HGa : Hid (VB g Va [.slice ua1 tn1 uc1, .slice va1 sn1 vc1, .int .u8 ck1, .int .i64 ci1]) := by rw [hVn]; exact Lib.hid ((((HGv.out.set 0 (.slice ua1 tn1 uc1) (by simp)).set 1 (.slice va1 sn1 vc1) (by simp)).set 2 (.int .u8 ck1) (by simp)).set 3 (.int .i64 ci1) (by simp))
                have HHa : Hid (VB h Va [.slice none 0 0, .slice none 0 0, .int .u8 0, .int .i64 0]) := by rw [hVn]; exact Lib.hid ((((HHv.out.other ⟨g, 0, none⟩ (by simp; omega) (.slice ua1 tn1 uc1)).other ⟨g, 1, none⟩ (by simp; omega) (.slice va1 sn1 vc1)).other ⟨g, 2, none⟩ (by simp; omega) (.int .u8 ck1)).other ⟨g, 3, none⟩ (by simp; omega) (.int .i64 ci1))
                have hONVa : On W0 Va := by rw [hVn]; exact ((((hONV2.setCell hg2 (.slice ua1 tn1 uc1)).setCell hg2 (.slice va1 sn1 vc1)).setCell hg2 (.int .u8 ck1)).setCell hg2 (.int .i64 ci1))
                refine HeadG.one (i := 12) rfl (by kernel_rfl) (by kernel_rfl) (fun K9 hK9 => ?_)
                go_simp
                rw [← hVn]
                refine hK9.out _ _ hONVa ?_
                clear hK9 K9 hVn z0 z1 z2 z3 r0 r1 r2 r3
                try simp only [Act.put, List.setIfInBounds_toArray, List.set_cons_zero, List.set_cons_succ, List.getElem_toArray, List.getElem_cons_zero, List.getElem_cons_succ]
                have z0 := HHa.out.2.1 0 _ rfl; have z1 := HHa.out.2.1 1 _ rfl; have z2 := HHa.out.2.1 2 _ rfl; have z3 := HHa.out.2.1 3 _ rfl
                have r0 := HHa.out.2.2 0; have r1 := HHa.out.2.2 1; have r2 := HHa.out.2.2 2; have r3 := HHa.out.2.2 3
                obtain ⟨Vb, hVn⟩ : ∃ Vb, Vb = ((((Va.setCell ⟨h, 0, none⟩ (.slice ua2 tn2 uc2)).setCell ⟨h, 1, none⟩ (.slice va2 sn2 vc2)).setCell ⟨h, 2, none⟩ (.int .u8 ck2)).setCell ⟨h, 3, none⟩ (.int .i64 ci2)) := ⟨_, rfl⟩
                have HHb : Hid (VB h Vb [.slice ua2 tn2 uc2, .slice va2 sn2 vc2, .int .u8 ck2, .int .i64 ci2]) := by rw [hVn]; exact Lib.hid ((((HHa.out.set 0 (.slice ua2 tn2 uc2) (by simp)).set 1 (.slice va2 sn2 vc2) (by simp)).set 2 (.int .u8 ck2) (by simp)).set 3 (.int .i64 ci2) (by simp))
                have HGb : Hid (VB g Vb [.slice ua1 tn1 uc1, .slice va1 sn1 vc1, .int .u8 ck1, .int .i64 ci1]) := by rw [hVn]; exact Lib.hid ((((HGa.out.other ⟨h, 0, none⟩ (by simp; omega) (.slice ua2 tn2 uc2)).other ⟨h, 1, none⟩ (by simp; omega) (.slice va2 sn2 vc2)).other ⟨h, 2, none⟩ (by simp; omega) (.int .u8 ck2)).other ⟨h, 3, none⟩ (by simp; omega) (.int .i64 ci2))
                have hONVb : On W0 Vb := by rw [hVn]; exact ((((hONVa.setCell hh2 (.slice ua2 tn2 uc2)).setCell hh2 (.slice va2 sn2 vc2)).setCell hh2 (.int .u8 ck2)).setCell hh2 (.int .i64 ci2))
                refine HeadG.last (i := 13) rfl (by kernel_rfl) (by kernel_rfl) (by kernel_rfl) (fun K9 hK9 => ?_)
                go_simp
                rw [← hVn]
                refine hK9.out _ _ ?_
                clear hK9 K9 hVn z0 z1 z2 z3 r0 r1 r2 r3
                try simp only [Act.put, List.setIfInBounds_toArray, List.set_cons_zero, List.set_cons_succ, List.getElem_toArray, List.getElem_cons_zero, List.getElem_cons_succ]
                have HGB : Hid (∀ wq, On Vb wq → wq.cell? ⟨g, 0, none⟩ = some (.slice ua1 tn1 uc1) ∧ wq.cell? ⟨g, 1, none⟩ = some (.slice va1 sn1 vc1) ∧ wq.cell? ⟨g, 2, none⟩ = some (.int .u8 ck1) ∧ wq.cell? ⟨g, 3, none⟩ = some (.int .i64 ci1) ∧ wq.cell? ⟨h, 0, none⟩ = some (.slice ua2 tn2 uc2) ∧ wq.cell? ⟨h, 1, none⟩ = some (.slice va2 sn2 vc2) ∧ wq.cell? ⟨h, 2, none⟩ = some (.int .u8 ck2) ∧ wq.cell? ⟨h, 3, none⟩ = some (.int .i64 ci2)) := Lib.hid fun wq hq => ⟨(HGb.out.on hq).2.1 0 _ rfl, (HGb.out.on hq).2.1 1 _ rfl, (HGb.out.on hq).2.1 2 _ rfl, (HGb.out.on hq).2.1 3 _ rfl, (HHb.out.on hq).2.1 0 _ rfl, (HHb.out.on hq).2.1 1 _ rfl, (HHb.out.on hq).2.1 2 _ rfl, (HHb.out.on hq).2.1 3 _ rfl⟩
                have HVB := Lib.hid hONVb
                have HVR : Hid (On Vb Vb) := Lib.hid (On.refl hONVb.tab)
                obtain ⟨m0, m1, m2, m3, m4, m5, m6, m7⟩ := HGB.out Vb HVR.out
                clear hSd hgh hg2 hh2 hONVa hONVb HGa HGb HHa HHb HGv HHv hA1 hB1 hA2 hB2 hSV1 hSV2 g1 g2 g3 g4 g5 g6
                have HT1 : Hid (∀ wq, On Vb wq → Calls Tryd.prog 81 #[.slice ua1 tn1 uc1, .slice ua2 tn2 uc2] wq fun e w' => e = .returned (.bool (decide (tu1 = tu2))) ∧ On Vb w') := Lib.hid fun wq hq => (HTU.out wq (HVB.out.trans hq)).mono fun e w' ⟨he, ho⟩ => ⟨he, (by obtain ⟨n, hn⟩ := ho; rw [hn]; exact hq.drewN n)⟩
                have HT2 : Hid (∀ wq, On Vb wq → Calls Tryd.prog 81 #[.slice va1 sn1 vc1, .slice va2 sn2 vc2] wq fun e w' => e = .returned (.bool (decide (ta1 = ta2))) ∧ On Vb w') := Lib.hid fun wq hq => (HTA.out wq (HVB.out.trans hq)).mono fun e w' ⟨he, ho⟩ => ⟨he, (by obtain ⟨n, hn⟩ := ho; rw [hn]; exact hq.drewN n)⟩
                by_cases ht1 : tu1 = tu2
                rotate_left
                · have HG := Lib.hid (HNE.out (.inl ht1))
                  rw [decide_eq_false ht1] at HT1
                  clear HS HNE ht1 HT2 heq
                  go_wp2_with (go_at_call 81; (with_reducible refine (HT1.out _ HVR.out).mono ?_); rintro e wa ⟨rfl, hoa⟩)
                  go_ret
                  exact ShPost.no HG.out (HO0.out.trans (HVB.out.trans hoa))
                have HE1 := Lib.hid ht1
                rw [decide_eq_true ht1] at HT1
                clear ht1
                by_cases ht2 : ta1 = ta2
                rotate_left
                · have HG := Lib.hid (HNE.out (.inr (.inl ht2)))
                  rw [decide_eq_false ht2] at HT2
                  clear HS HNE ht2 heq
                  go_wp2_with (first
                    | (go_at_call 81; (with_reducible refine (HT1.out _ HVR.out).mono ?_); rintro e wa ⟨rfl, hoa⟩; obtain ⟨m0, m1, m2, m3, m4, m5, m6, m7⟩ := HGB.out wa hoa)
                    | (go_at_call 81; (with_reducible refine (HT2.out _ hoa).mono ?_); rintro e wb ⟨rfl, hob⟩)
                    | fail)
                  go_ret
                  exact ShPost.no HG.out (HO0.out.trans (HVB.out.trans hob))
                have HE2 := Lib.hid ht2
                rw [decide_eq_true ht2] at HT2
                clear ht2
                by_cases ht3 : ((ck1, ci1) : Vr) = (ck2, ci2)
                rotate_left
                · have HG := Lib.hid (HNE.out (.inr (.inr ht3)))
                  rw [decide_eq_false ht3] at heq
                  clear HS HNE ht3
                  go_wp2_with (first
                    | (go_at_call 81; (with_reducible refine (HT1.out _ HVR.out).mono ?_); rintro e wa ⟨rfl, hoa⟩; obtain ⟨m0, m1, m2, m3, m4, m5, m6, m7⟩ := HGB.out wa hoa)
                    | (go_at_call 81; (with_reducible refine (HT2.out _ hoa).mono ?_); rintro e wb ⟨rfl, hob⟩; obtain ⟨m0, m1, m2, m3, m4, m5, m6, m7⟩ := HGB.out wb hob)
                    | fail)
                  go_ret
                  exact ShPost.no HG.out (HO0.out.trans (HVB.out.trans hob))
                have HG := Lib.hid (HS.out HE1.out HE2.out ht3)
                rw [decide_eq_true ht3] at heq
                clear HS HNE ht3
                go_wp2_with (first
                  | (go_at_call 81; (with_reducible refine (HT1.out _ HVR.out).mono ?_); rintro e wa ⟨rfl, hoa⟩; obtain ⟨m0, m1, m2, m3, m4, m5, m6, m7⟩ := HGB.out wa hoa)
                  | (go_at_call 81; (with_reducible refine (HT2.out _ hoa).mono ?_); rintro e wb ⟨rfl, hob⟩; obtain ⟨m0, m1, m2, m3, m4, m5, m6, m7⟩ := HGB.out wb hob)
                  | fail)
                have HOB := Lib.hid (HVB.out.trans hob)
                go_roundw
                case rel => exact ⟨k + 1, by omega, by simp, HG, HOB⟩
                case measure => simp [intOf]; omega
            · obtain rfl : n3 = k := by omega
              have HEQ3 : Hid (A.looks = B.looks) := Lib.hid (ext_D zLk HL7.out (by rw [← HN3.out]; exact HK.out))
              have HF : Hid (shE A B) := Lib.hid ⟨HHD.out, HEQ1.out, HEQ2.out, HEQ3.out⟩
              clear HK
              go_wp2
              go_ret
              exact ShPost.yes HF.out (HO0.out.trans HWR.out)
end Go.Proofs.YtbgljelpldnldaaDoor

/- SystemWords: the walk. -/
namespace Go.Proofs.YtbgljelpldnldaaDoor
open Go.RowKit Go.Lib
set_option linter.unusedVariables false

set_option maxHeartbeats 8000000 in
set_option maxRecDepth 100000 in
theorem swords_any (A B : Sy) (a1 a2 a3 a4 : Option Addr) (k1 k2 k3 k4 : Nat) (b1 b2 b3 b4 : Option Addr) (j1 j2 j3 j4 : Nat) (w : World) (hT : Tab w) (hRA : SyR w ⟨a1, a2, a3, a4, k1, k2, k3, k4⟩ A) (hRB : SyR w ⟨b1, b2, b3, b4, j1, j2, j3, j4⟩ B) :
    Calls Tryd.prog 6 #[syA A ⟨a1, a2, a3, a4, k1, k2, k3, k4⟩, syA B ⟨b1, b2, b3, b4, j1, j2, j3, j4⟩] w fun e w' => e = .returned (.bool true) ∧ On w w' := by
  obtain ⟨W0, hW0⟩ : ∃ W0, W0 = (w.alloc (syO A ⟨a1, a2, a3, a4, k1, k2, k3, k4⟩)).alloc (syO B ⟨b1, b2, b3, b4, j1, j2, j3, j4⟩) := ⟨_, rfl⟩
  have hA1 := (On.refl hT).alloc (syO A ⟨a1, a2, a3, a4, k1, k2, k3, k4⟩)
  have hA2 := (On.refl hA1.tab).alloc (syO B ⟨b1, b2, b3, b4, j1, j2, j3, j4⟩)
  have hO0 : On w W0 := by rw [hW0]; exact hA1.trans hA2
  obtain ⟨Q, hQ⟩ : ∃ Q, Q = w.heap.size := ⟨_, rfl⟩
  have HBA : Hid (VB Q W0 (syL A ⟨a1, a2, a3, a4, k1, k2, k3, k4⟩)) := by rw [hW0, hQ]; exact Lib.hid ((vb_newS A _ w).on hA2)
  have HBB : Hid (VB (Q + 1) W0 (syL B ⟨b1, b2, b3, b4, j1, j2, j3, j4⟩)) := by rw [hW0]; exact Lib.hid (vb_newS2 B _ _ _ (by rw [World.size_alloc, hQ]))
  have HSA : Hid (∀ wq, On W0 wq → _) := fun wq h => sy_cells (HBA.out.on h)
  have HSB : Hid (∀ wq, On W0 wq → _) := fun wq h => sy_cells (HBB.out.on h)
  have HOK : Hid (On W0 W0) := On.refl hO0.tab
  have HSMA : Hid (∀ wq, On W0 wq → Calls Tryd.prog 12 #[syA A ⟨a1, a2, a3, a4, k1, k2, k3, k4⟩] wq fun e w' => (∃ b : Bool, e = .returned (.bool b)) ∧ On W0 w') := fun wq h => (small_any A a1 a2 a3 a4 k1 k2 k3 k4 wq h.tab (hRA.on (hO0.trans h))).mono fun e w' ⟨he, ho⟩ => ⟨he, h.trans ho⟩
  have HSMB : Hid (∀ wq, On W0 wq → Calls Tryd.prog 12 #[syA B ⟨b1, b2, b3, b4, j1, j2, j3, j4⟩] wq fun e w' => (∃ b : Bool, e = .returned (.bool b)) ∧ On W0 w') := fun wq h => (small_any B b1 b2 b3 b4 j1 j2 j3 j4 wq h.tab (hRB.on (hO0.trans h))).mono fun e w' ⟨he, ho⟩ => ⟨he, h.trans ho⟩
  have HLV : Hid (∀ wq, On W0 wq → Calls Tryd.prog 13 #[] wq fun e w' => e = .returned (.bool true) ∧ On W0 w') := fun wq h => (live_any wq h.tab).mono fun e w' ⟨he, ho⟩ => ⟨he, h.trans ho⟩
  have HVA2 : Hid (∀ wq, On W0 wq → Calls Tryd.prog 15 #[syA A ⟨a1, a2, a3, a4, k1, k2, k3, k4⟩] wq fun e w' => e = .returned (.bool (valSy A)) ∧ On W0 w') := fun wq h => (rvalid13_any A _ wq h.tab (hRA.on (hO0.trans h))).mono fun e w' ⟨he, ho⟩ => ⟨he, h.trans ho⟩
  have HVB2 : Hid (∀ wq, On W0 wq → Calls Tryd.prog 15 #[syA B ⟨b1, b2, b3, b4, j1, j2, j3, j4⟩] wq fun e w' => e = .returned (.bool (valSy B)) ∧ On W0 w') := fun wq h => (rvalid13_any B _ wq h.tab (hRB.on (hO0.trans h))).mono fun e w' ⟨he, ho⟩ => ⟨he, h.trans ho⟩
  have HW0 := Lib.hid hW0; have HQ := Lib.hid hQ; have HO0 := Lib.hid hO0
  cases vA : valSy A with
  | false =>
    rw [vA] at HVA2
    clear hT hRA hRB hW0 hO0 hQ HBA HBB hA1 hA2 vA
    generalize valSy B = vb at *
    go_enter Tryd.func6, Tryd.ntmps6
    go_upto_region 1 with fail
    rw [← HW0.out, ← HQ.out]
    obtain ⟨s0, s1, s2, s3, s4, s5, s6, s7⟩ := HSA.out _ HOK.out
    obtain ⟨t0, t1, t2, t3, t4, t5, t6, t7⟩ := HSB.out _ HOK.out
    go_wp2_with (first
      | (go_at_call 12; (with_reducible refine (HSMA.out _ HOK.out).mono ?_); rintro e w1 ⟨⟨b, rfl⟩, hO1⟩; obtain ⟨s0, s1, s2, s3, s4, s5, s6, s7⟩ := HSA.out w1 hO1; obtain ⟨t0, t1, t2, t3, t4, t5, t6, t7⟩ := HSB.out w1 hO1)
      | (go_at_call 12; (with_reducible refine (HSMB.out _ hO1).mono ?_); rintro e w2 ⟨⟨bb, rfl⟩, hO2⟩; obtain ⟨s0, s1, s2, s3, s4, s5, s6, s7⟩ := HSA.out w2 hO2; obtain ⟨t0, t1, t2, t3, t4, t5, t6, t7⟩ := HSB.out w2 hO2)
      | (go_at_call 15; (with_reducible refine (HVA2.out _ hO2).mono ?_); rintro e w3 ⟨rfl, hO3⟩; obtain ⟨s0, s1, s2, s3, s4, s5, s6, s7⟩ := HSA.out w3 hO3; obtain ⟨t0, t1, t2, t3, t4, t5, t6, t7⟩ := HSB.out w3 hO3)
      | (go_at_call 15; (with_reducible refine (HVB2.out _ hO3).mono ?_); rintro e w4 ⟨rfl, hO4⟩; obtain ⟨s0, s1, s2, s3, s4, s5, s6, s7⟩ := HSA.out w4 hO4; obtain ⟨t0, t1, t2, t3, t4, t5, t6, t7⟩ := HSB.out w4 hO4)
      | (go_at_call 13; (with_reducible refine (HLV.out _ hO4).mono ?_); rintro e w5 ⟨rfl, hO5⟩)
      | (go_at_call 13; (with_reducible refine (HLV.out _ hO3).mono ?_); rintro e w5 ⟨rfl, hO5⟩)
      | (go_at_call 13; (with_reducible refine (HLV.out _ hO2).mono ?_); rintro e w5 ⟨rfl, hO5⟩)
      | (go_at_call 13; (with_reducible refine (HLV.out _ hO1).mono ?_); rintro e w5 ⟨rfl, hO5⟩)
      | fail)
    all_goals (go_ret; exact ⟨rfl, HO0.out.trans hO5⟩)
  | true =>
    cases vB : valSy B with
    | false =>
      rw [vA] at HVA2
      rw [vB] at HVB2
      clear hT hRA hRB hW0 hO0 hQ HBA HBB hA1 hA2 vA vB
      go_enter Tryd.func6, Tryd.ntmps6
      go_upto_region 1 with fail
      rw [← HW0.out, ← HQ.out]
      obtain ⟨s0, s1, s2, s3, s4, s5, s6, s7⟩ := HSA.out _ HOK.out
      obtain ⟨t0, t1, t2, t3, t4, t5, t6, t7⟩ := HSB.out _ HOK.out
      go_wp2_with (first
        | (go_at_call 12; (with_reducible refine (HSMA.out _ HOK.out).mono ?_); rintro e w1 ⟨⟨b, rfl⟩, hO1⟩; obtain ⟨s0, s1, s2, s3, s4, s5, s6, s7⟩ := HSA.out w1 hO1; obtain ⟨t0, t1, t2, t3, t4, t5, t6, t7⟩ := HSB.out w1 hO1)
        | (go_at_call 12; (with_reducible refine (HSMB.out _ hO1).mono ?_); rintro e w2 ⟨⟨bb, rfl⟩, hO2⟩; obtain ⟨s0, s1, s2, s3, s4, s5, s6, s7⟩ := HSA.out w2 hO2; obtain ⟨t0, t1, t2, t3, t4, t5, t6, t7⟩ := HSB.out w2 hO2)
        | (go_at_call 15; (with_reducible refine (HVA2.out _ hO2).mono ?_); rintro e w3 ⟨rfl, hO3⟩; obtain ⟨s0, s1, s2, s3, s4, s5, s6, s7⟩ := HSA.out w3 hO3; obtain ⟨t0, t1, t2, t3, t4, t5, t6, t7⟩ := HSB.out w3 hO3)
        | (go_at_call 15; (with_reducible refine (HVB2.out _ hO3).mono ?_); rintro e w4 ⟨rfl, hO4⟩; obtain ⟨s0, s1, s2, s3, s4, s5, s6, s7⟩ := HSA.out w4 hO4; obtain ⟨t0, t1, t2, t3, t4, t5, t6, t7⟩ := HSB.out w4 hO4)
        | (go_at_call 13; (with_reducible refine (HLV.out _ hO4).mono ?_); rintro e w5 ⟨rfl, hO5⟩)
        | (go_at_call 13; (with_reducible refine (HLV.out _ hO3).mono ?_); rintro e w5 ⟨rfl, hO5⟩)
        | (go_at_call 13; (with_reducible refine (HLV.out _ hO2).mono ?_); rintro e w5 ⟨rfl, hO5⟩)
        | (go_at_call 13; (with_reducible refine (HLV.out _ hO1).mono ?_); rintro e w5 ⟨rfl, hO5⟩)
        | fail)
      all_goals (go_ret; exact ⟨rfl, HO0.out.trans hO5⟩)
    | true =>
      rw [vA] at HVA2
      rw [vB] at HVB2
      have HWA : Hid (∀ wq, On W0 wq → Calls Tryd.prog 19 #[syA A ⟨a1, a2, a3, a4, k1, k2, k3, k4⟩] wq fun e w' => (∃ ua uc, e = .returned (.slice ua (wordsS A).length uc) ∧ NR w' (.slice ua (wordsS A).length uc) (wordsS A)) ∧ On W0 w') := fun wq h => (words13_any A a1 a2 a3 a4 k1 k2 k3 k4 wq h.tab (hRA.on (hO0.trans h))).mono fun e w' ⟨⟨v, he, hn⟩, ho⟩ => by
        obtain ⟨ua, uc, rfl⟩ := hn.1.shape
        exact ⟨⟨ua, uc, he, hn⟩, h.trans ho⟩
      have HWB : Hid (∀ wq, On W0 wq → Calls Tryd.prog 19 #[syA B ⟨b1, b2, b3, b4, j1, j2, j3, j4⟩] wq fun e w' => (∃ ua uc, e = .returned (.slice ua (wordsS B).length uc) ∧ NR w' (.slice ua (wordsS B).length uc) (wordsS B)) ∧ On wq w') := fun wq h => (words13_any B b1 b2 b3 b4 j1 j2 j3 j4 wq h.tab (hRB.on (hO0.trans h))).mono fun e w' ⟨⟨v, he, hn⟩, ho⟩ => by
        obtain ⟨ua, uc, rfl⟩ := hn.1.shape
        exact ⟨⟨ua, uc, he, hn⟩, ho⟩
      have HSH : Hid (∀ wq, On W0 wq → Calls Tryd.prog 29 #[syA A ⟨a1, a2, a3, a4, k1, k2, k3, k4⟩, syA B ⟨b1, b2, b3, b4, j1, j2, j3, j4⟩] wq fun e w' => (∃ b : Bool, e = .returned (.bool b) ∧ (b = true ↔ shE A B)) ∧ On W0 w') := fun wq h => (rshape_any A B a1 a2 a3 a4 k1 k2 k3 k4 b1 b2 b3 b4 j1 j2 j3 j4 wq h.tab (hRA.on (hO0.trans h)) (hRB.on (hO0.trans h)) vA vB).mono fun e w' ⟨he, ho⟩ => ⟨he, h.trans ho⟩
      have HTL : Hid (wordsS A = wordsS B ↔ shE A B) := Lib.hid (words_tell hRA hRB vA vB)
      generalize wordsS A = WA at *
      generalize wordsS B = WB at *
      generalize shE A B = SHE at *
      clear hT hRA hRB hW0 hO0 hQ HBA HBB hA1 hA2 vA vB
      go_enter Tryd.func6, Tryd.ntmps6
      go_upto_region 1 with fail
      rw [← HW0.out, ← HQ.out]
      obtain ⟨s0, s1, s2, s3, s4, s5, s6, s7⟩ := HSA.out _ HOK.out
      obtain ⟨t0, t1, t2, t3, t4, t5, t6, t7⟩ := HSB.out _ HOK.out
      go_wp2_with (first
        | (go_at_call 12; (with_reducible refine (HSMA.out _ HOK.out).mono ?_); rintro e w1 ⟨⟨b, rfl⟩, hO1⟩; obtain ⟨s0, s1, s2, s3, s4, s5, s6, s7⟩ := HSA.out w1 hO1; obtain ⟨t0, t1, t2, t3, t4, t5, t6, t7⟩ := HSB.out w1 hO1)
        | (go_at_call 12; (with_reducible refine (HSMB.out _ hO1).mono ?_); rintro e w2 ⟨⟨bb, rfl⟩, hO2⟩; obtain ⟨s0, s1, s2, s3, s4, s5, s6, s7⟩ := HSA.out w2 hO2; obtain ⟨t0, t1, t2, t3, t4, t5, t6, t7⟩ := HSB.out w2 hO2)
        | (go_at_call 15; (with_reducible refine (HVA2.out _ hO2).mono ?_); rintro e w3 ⟨rfl, hO3⟩; obtain ⟨s0, s1, s2, s3, s4, s5, s6, s7⟩ := HSA.out w3 hO3; obtain ⟨t0, t1, t2, t3, t4, t5, t6, t7⟩ := HSB.out w3 hO3)
        | (go_at_call 15; (with_reducible refine (HVB2.out _ hO3).mono ?_); rintro e w4 ⟨rfl, hO4⟩; obtain ⟨s0, s1, s2, s3, s4, s5, s6, s7⟩ := HSA.out w4 hO4; obtain ⟨t0, t1, t2, t3, t4, t5, t6, t7⟩ := HSB.out w4 hO4)
        | (go_at_call 13; (with_reducible refine (HLV.out _ hO4).mono ?_); rintro e w5 ⟨rfl, hO5⟩)
        | (go_at_call 13; (with_reducible refine (HLV.out _ hO3).mono ?_); rintro e w5 ⟨rfl, hO5⟩)
        | (go_at_call 13; (with_reducible refine (HLV.out _ hO2).mono ?_); rintro e w5 ⟨rfl, hO5⟩)
        | (go_at_call 13; (with_reducible refine (HLV.out _ hO1).mono ?_); rintro e w5 ⟨rfl, hO5⟩)
        | fail)
      all_goals first
        | (go_ret; exact ⟨rfl, HO0.out.trans hO5⟩)
        | skip
      clear s0 s1 s2 s3 s4 s5 s6 s7 t0 t1 t2 t3 t4 t5 t6 t7
      obtain ⟨V0, hV0⟩ : ∃ V0, V0 = w4.drew := ⟨_, rfl⟩
      have hS0 : On W0 V0 := by rw [hV0]; exact hO4.drew
      refine region_head_tail (S := fun wx => On W0 wx) 12 (by kernel_rfl) (by kernel_rfl) ?_
      rw [← hV0]
      clear hV0
      refine HeadG.take (i := 0) (v := syA A ⟨a1, a2, a3, a4, k1, k2, k3, k4⟩) rfl (by kernel_rfl) (by kernel_rfl) (by kernel_rfl) (by kernel_rfl) (by kernel_rfl) (by kernel_rfl) (by kernel_rfl) (fun _ _ _ h => h) (Or.inl ⟨by rfl, ?hyt0⟩) hS0 ?hrt0
      case hyt0 => (intro w' hSw; obtain ⟨s0, s1, s2, s3, s4, s5, s6, s7⟩ := HSA.out w' hSw; obtain ⟨t0, t1, t2, t3, t4, t5, t6, t7⟩ := HSB.out w' hSw; go_simp; try with_reducible rfl)
      try simp only [Act.put, List.setIfInBounds_toArray, List.set_cons_zero, List.set_cons_succ, List.getElem_toArray, List.getElem_cons_zero, List.getElem_cons_succ]
      refine HeadG.take (i := 2) (v := syA B ⟨b1, b2, b3, b4, j1, j2, j3, j4⟩) rfl (by kernel_rfl) (by kernel_rfl) (by kernel_rfl) (by kernel_rfl) (by kernel_rfl) (by kernel_rfl) (by kernel_rfl) (fun _ _ _ h => h) (Or.inl ⟨by rfl, ?hyt2⟩) hS0 ?hrt2
      case hyt2 => (intro w' hSw; obtain ⟨s0, s1, s2, s3, s4, s5, s6, s7⟩ := HSA.out w' hSw; obtain ⟨t0, t1, t2, t3, t4, t5, t6, t7⟩ := HSB.out w' hSw; go_simp; try with_reducible rfl)
      try simp only [Act.put, List.setIfInBounds_toArray, List.set_cons_zero, List.set_cons_succ, List.getElem_toArray, List.getElem_cons_zero, List.getElem_cons_succ]
      refine HeadG.take (i := 5) (v := syA A ⟨a1, a2, a3, a4, k1, k2, k3, k4⟩) rfl (by kernel_rfl) (by kernel_rfl) (by kernel_rfl) (by kernel_rfl) (by kernel_rfl) (by kernel_rfl) (by kernel_rfl) (fun _ _ _ h => h) (Or.inl ⟨by rfl, ?hyt5⟩) hS0 ?hrt5
      case hyt5 => (intro w' hSw; obtain ⟨s0, s1, s2, s3, s4, s5, s6, s7⟩ := HSA.out w' hSw; obtain ⟨t0, t1, t2, t3, t4, t5, t6, t7⟩ := HSB.out w' hSw; go_simp; try with_reducible rfl)
      try simp only [Act.put, List.setIfInBounds_toArray, List.set_cons_zero, List.set_cons_succ, List.getElem_toArray, List.getElem_cons_zero, List.getElem_cons_succ]
      refine HeadG.take (i := 6) (v := syA B ⟨b1, b2, b3, b4, j1, j2, j3, j4⟩) rfl (by kernel_rfl) (by kernel_rfl) (by kernel_rfl) (by kernel_rfl) (by kernel_rfl) (by kernel_rfl) (by kernel_rfl) (fun _ _ _ h => h) (Or.inl ⟨by rfl, ?hyt6⟩) hS0 ?hrt6
      case hyt6 => (intro w' hSw; obtain ⟨s0, s1, s2, s3, s4, s5, s6, s7⟩ := HSA.out w' hSw; obtain ⟨t0, t1, t2, t3, t4, t5, t6, t7⟩ := HSB.out w' hSw; go_simp; try with_reducible rfl)
      try simp only [Act.put, List.setIfInBounds_toArray, List.set_cons_zero, List.set_cons_succ, List.getElem_toArray, List.getElem_cons_zero, List.getElem_cons_succ]
      refine HeadG.one (i := 1) rfl (by kernel_rfl) (by kernel_rfl) (fun K9 hK9 => ?_)
      go_simp
      go_at_call 19
      with_reducible refine (HWA.out _ hS0).mono ?_
      rintro e wa ⟨⟨ua, uc, rfl, hN1⟩, hOa⟩
      refine hK9.out _ _ hOa ?_
      clear hK9 K9
      try simp only [Act.put, List.setIfInBounds_toArray, List.set_cons_zero, List.set_cons_succ, List.getElem_toArray, List.getElem_cons_zero, List.getElem_cons_succ]
      refine HeadG.one (i := 3) rfl (by kernel_rfl) (by kernel_rfl) (fun K9 hK9 => ?_)
      go_simp
      go_at_call 19
      with_reducible refine (HWB.out _ hOa).mono ?_
      rintro e wb ⟨⟨va, vc, rfl, hN2⟩, hOb⟩
      refine hK9.out _ _ (hOa.trans hOb) ?_
      clear hK9 K9
      try simp only [Act.put, List.setIfInBounds_toArray, List.set_cons_zero, List.set_cons_succ, List.getElem_toArray, List.getElem_cons_zero, List.getElem_cons_succ]
      have HEQ := Lib.hid (requal13_any WA WB _ _ wb (hN1.1.on hOb) hN2.1)
      have HFF := Lib.hid (hOa.trans hOb)
      refine HeadG.one (i := 4) rfl (by kernel_rfl) (by kernel_rfl) (fun K9 hK9 => ?_)
      go_simp
      go_at_call 18
      with_reducible refine HEQ.out.mono ?_
      rintro e wc ⟨rfl, n9, rfl⟩
      have hOc : On W0 (wb.drewN n9) := HFF.out.drewN n9
      refine hK9.out _ _ hOc ?_
      clear hK9 K9
      try simp only [Act.put, List.setIfInBounds_toArray, List.set_cons_zero, List.set_cons_succ, List.getElem_toArray, List.getElem_cons_zero, List.getElem_cons_succ]
      refine HeadG.one (i := 7) rfl (by kernel_rfl) (by kernel_rfl) (fun K9 hK9 => ?_)
      go_simp
      go_at_call 29
      with_reducible refine (HSH.out _ hOc).mono ?_
      rintro e wd ⟨⟨bs, rfl, hbs⟩, hOd⟩
      have hbe : decide (WA = WB) = bs := by rw [Bool.eq_iff_iff]; simp only [decide_eq_true_eq]; exact HTL.out.trans hbs.symm
      rw [hbe]
      have HBE := Lib.hid hbe
      clear hbe hbs
      refine hK9.out _ _ hOd ?_
      clear hK9 K9
      try simp only [Act.put, List.setIfInBounds_toArray, List.set_cons_zero, List.set_cons_succ, List.getElem_toArray, List.getElem_cons_zero, List.getElem_cons_succ]
      refine HeadG.take (i := 8) (v := .bool true) rfl (by kernel_rfl) (by kernel_rfl) (by kernel_rfl) (by kernel_rfl) (by kernel_rfl) (by kernel_rfl) (by kernel_rfl) (fun _ _ _ h => h) (Or.inl ⟨by rfl, ?hyt8⟩) hOd ?hrt8
      case hyt8 => (intro w' hSw; go_simp; (try (with_reducible rfl)); (try simp))
      try simp only [Act.put, List.setIfInBounds_toArray, List.set_cons_zero, List.set_cons_succ, List.getElem_toArray, List.getElem_cons_zero, List.getElem_cons_succ]
      refine HeadG.take (i := 9) (v := .bool true) rfl (by kernel_rfl) (by kernel_rfl) (by kernel_rfl) (by kernel_rfl) (by kernel_rfl) (by kernel_rfl) (by kernel_rfl) (fun _ _ _ h => h) (Or.inl ⟨by rfl, ?hyt9⟩) hOd ?hrt9
      case hyt9 => (intro w' hSw; go_simp; (try (with_reducible rfl)); (try simp))
      try simp only [Act.put, List.setIfInBounds_toArray, List.set_cons_zero, List.set_cons_succ, List.getElem_toArray, List.getElem_cons_zero, List.getElem_cons_succ]
      refine HeadG.one (i := 10) rfl (by kernel_rfl) (by kernel_rfl) (fun K9 hK9 => ?_)
      go_simp
      go_at_call 13
      with_reducible refine (HLV.out _ hOd).mono ?_
      rintro e we ⟨rfl, hOe⟩
      refine hK9.out _ _ hOe ?_
      clear hK9 K9
      try simp only [Act.put, List.setIfInBounds_toArray, List.set_cons_zero, List.set_cons_succ, List.getElem_toArray, List.getElem_cons_zero, List.getElem_cons_succ]
      refine HeadG.take (i := 11) (v := .bool true) rfl (by kernel_rfl) (by kernel_rfl) (by kernel_rfl) (by kernel_rfl) (by kernel_rfl) (by kernel_rfl) (by kernel_rfl) (fun _ _ _ h => h) (Or.inl ⟨by rfl, ?hyt11⟩) hOe ?hrt11
      case hyt11 => (intro w' hSw; go_simp; (try (with_reducible rfl)); (try simp))
      try simp only [Act.put, List.setIfInBounds_toArray, List.set_cons_zero, List.set_cons_succ, List.getElem_toArray, List.getElem_cons_zero, List.getElem_cons_succ]
      refine HeadG.last (i := 12) rfl (by kernel_rfl) (by kernel_rfl) (by kernel_rfl) (fun K9 hK9 => ?_)
      go_simp
      refine hK9.out _ _ ?_
      clear hK9 K9
      try simp only [Act.put, List.setIfInBounds_toArray, List.set_cons_zero, List.set_cons_succ, List.getElem_toArray, List.getElem_cons_zero, List.getElem_cons_succ]
      go_wp2_with fail
      go_ret
      exact ⟨by simp, HO0.out.trans hOe⟩
end Go.Proofs.YtbgljelpldnldaaDoor
