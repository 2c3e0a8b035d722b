/- The document's own: SameVars, Same. -/
import Derived.Test.YtbgljelpldnldaaDoorKz06
import Derived.Laws.StructEq
import Derived.ChangeKeysEq
set_option linter.unusedSimpArgs false
set_option linter.unusedVariables false
/- The document's own: SameVars, Same. -/
namespace Go.Proofs.YtbgljelpldnldaaDoor
open Go.RowKit
set_option linter.unusedVariables false

theorem mplainK : Tryd.prog.plainKey 54 = true := by kernel_rfl
theorem mplainI : Tryd.prog.plainKey 3 = true := by kernel_rfl
theorem meq_kind (d : Nat) (a b : Int) (w : World) : (Op.equalIn (d + 1) 54 (.int .u8 a) (.int .u8 b)).run Tryd.prog w = .ok (a == b) w := by
  simp [Op.equalIn, Sem.run_bind, run_underlying Tryd.underlying54]
theorem meq_int (d : Nat) (a b : Int) (w : World) : (Op.equalIn (d + 1) 3 (.int .i64 a) (.int .i64 b)).run Tryd.prog w = .ok (a == b) w := by
  simp [Op.equalIn, Sem.run_bind, run_underlying Tryd.underlying3]
theorem mfields : (Tryd.prog.fieldsOf 56).toList = [⟨ "Kind", 54, 0, false, "", "", 0⟩, ⟨ "Index", 3, 1, false, "", "", 8⟩] := by kernel_rfl
theorem eq_vr2 (X Y : Vr) (w : World) : (Op.equalIn 10000 56 (vrV X) (vrV Y)).run Tryd.prog w = .ok (X.1 == Y.1 && X.2 == Y.2) w := by
  obtain ⟨a, b⟩ := X
  obtain ⟨c, d⟩ := Y
  rw [show (10000 : Nat) = 9999 + 1 from rfl, run_equalIn_struct w 9999 _ _ _ (by kernel_rfl) (by kernel_rfl), mfields]
  have m1 : ("Kind" : String) ≠ "_" := by decide
  have m2 : ("Index" : String) ≠ "_" := by decide
  have q1 := run_part_plain w mplainK (xs := #[.int .u8 a, .int .i64 b]) (off := 0) rfl
  have q2 := run_part_plain w mplainI (xs := #[.int .u8 a, .int .i64 b]) (off := 1) rfl
  have r1 := run_part_plain w mplainK (xs := #[.int .u8 c, .int .i64 d]) (off := 0) rfl
  have r2 := run_part_plain w mplainI (xs := #[.int .u8 c, .int .i64 d]) (off := 1) rfl
  have e1 : (Op.equalIn 9999 54 (.int .u8 a) (.int .u8 c)).run Tryd.prog w = .ok (a == c) w := meq_kind 9998 a c w
  have e2 : (Op.equalIn 9999 3 (.int .i64 b) (.int .i64 d)).run Tryd.prog w = .ok (b == d) w := meq_int 9998 b d w
  cases h1 : (a == c) <;> cases h2 : (b == d) <;> simp [Op.eqFields, m1, m2, Sem.run_bind, q1, q2, r1, r2, e1, e2, h1, h2]
theorem eq_vr (X Y : Vr) (w : World) : (Op.equalIn 10000 56 (vrV X) (vrV Y)).run Tryd.prog w = .ok (decide (X = Y)) w := by
  rw [eq_vr2]
  congr 1
  obtain ⟨a, b⟩ := X
  obtain ⟨c, d⟩ := Y
  simp only [Prod.mk.injEq]
  by_cases h1 : a = c <;> by_cases h2 : b = d <;> simp [h1, h2]
theorem ext_D {α : Type} (z : α) {l m : List α} (hl : l.length = m.length) (h : ∀ j, j < l.length → l.getD j z = m.getD j z) : l = m := by
  apply List.ext_getElem hl
  intro i h1 h2
  have := h i h1
  rw [List.getD_eq_getElem?_getD, List.getD_eq_getElem?_getD, List.getElem?_eq_getElem h1, List.getElem?_eq_getElem h2] at this
  exact this

set_option maxHeartbeats 1000000 in
theorem rsamev_any (l m : List Vr) (va vb : Value) (w : World) (hA : VRd w va l) (hB : VRd w vb m) :
    Calls Tryd.prog 131 #[va, vb] w fun e w' => e = .returned (.bool (decide (l = m))) ∧ Drawn w w' := by
  obtain ⟨a, ac, rfl⟩ := hA.shape
  obtain ⟨b, bc, rfl⟩ := hB.shape
  have hLa := hA.2.1
  have hLb := hB.2.1
  have HA := Lib.hid hA.cells
  have HB := Lib.hid hB.cells
  by_cases hl : l.length = m.length
  rotate_left
  · have hd : decide (l = m) = false := decide_eq_false (fun e => hl (by rw [e]))
    have hb : (((l.length : Nat) : Int) != ((m.length : Nat) : Int)) = true := by simp; omega
    rw [hd]
    clear hd hl hA hB
    go_enter Tryd.func131, Tryd.ntmps131
    go_wp2
    go_ret
    exact ⟨rfl, Drawn.refl _⟩
  have hb : (((l.length : Nat) : Int) != ((m.length : Nat) : Int)) = false := by simp; omega
  have HL := Lib.hid hl
  clear hl hA hB
  go_enter Tryd.func131, Tryd.ntmps131
  go_wp2_with fail
  go_loopw [5] (fun vi wr => ∃ k q : Nat, k ≤ l.length ∧ vi = .int .i64 (k : Int) ∧ Hid (∀ j, j < k → l.getD j zV = m.getD j zV) ∧ Hid (wr = w.drewN q)) (fun vi _ => l.length - (intOf vi).toNat)
  case atStart => exact ⟨0, 0, Nat.zero_le _, rfl, fun j hj => by omega, Lib.hid rfl⟩
  case round =>
    rename World => wr
    obtain ⟨k, q, hk, rfl, HK, HO⟩ := hrel
    by_cases hlt : k < l.length
    · have hlt' : (k : Int) < (l.length : Int) := by omega
      have hlt2 : (k : Int) < (m.length : Int) := by have := HL.out; omega
      obtain ⟨b1, o1, rfl, c0, c1⟩ := HA.out k hlt
      obtain ⟨b2, o2, rfl, d0, d1⟩ := HB.out k (by rw [← HL.out]; exact hlt)
      have hcw : ∀ p, wr.cell? p = w.cell? p := fun p => by rw [HO.out]; rfl
      have x0 := (hcw _).trans c0
      have x1 := (hcw _).trans c1
      have y0 := (hcw _).trans d0
      have y1 := (hcw _).trans d1
      have HS : Hid (l.getD k zV = m.getD k zV → ∀ j, j < k + 1 → l.getD j zV = m.getD j zV) := fun e j hj => by
        by_cases h : j = k
        · rw [h]; exact e
        · exact HK.out j (by omega)
      have HNE : Hid (l.getD k zV ≠ m.getD k zV → decide (l = m) = false) := fun e => decide_eq_false (fun h => e (by rw [h]))
      clear c0 c1 d0 d1 HK hcw
      generalize l.getD k zV = X at *
      generalize m.getD k zV = Y at *
      have heq := eq_vr X Y
      by_cases hxy : X = Y
      · have HG := Lib.hid (HS.out hxy)
        have hd : decide (X = Y) = true := decide_eq_true hxy
        rw [hd] at heq
        clear hd hxy HS HNE
        go_wp2
        go_quiet (fail)
        go_wp2
        go_roundw
        case rel => exact ⟨k + 1, q + nq, by omega, by go_num, HG, by unfold Hid; rw [HO.out]; exact World.drewN_drewN _ _ _⟩
        case measure => simp [intOf]; omega
      · have HG := Lib.hid (HNE.out hxy)
        have hd : decide (X = Y) = false := decide_eq_false hxy
        rw [hd] at heq
        clear hd hxy HS HNE
        go_wp2
        go_quiet (fail)
        go_wp2
        go_ret
        exact ⟨by rw [HG.out]; rfl, q + nq, by rw [HO.out]; exact World.drewN_drewN _ _ _⟩
    · obtain rfl : k = l.length := by omega
      have HG : Hid (decide (l = m) = true) := decide_eq_true (ext_D zV HL.out HK.out)
      clear HK
      go_wp2
      go_ret
      exact ⟨by rw [HG.out]; rfl, q, HO.out⟩

end Go.Proofs.YtbgljelpldnldaaDoor
