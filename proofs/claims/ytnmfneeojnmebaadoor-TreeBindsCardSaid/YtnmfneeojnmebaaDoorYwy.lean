/- Comparing digests, and pairs of digests. -/
import Derived.Test.YtnmfneeojnmebaaDoorYw4
/- Comparing digests, and pairs of digests. -/
namespace Go.Proofs.YtnmfneeojnmebaaDoor
open Go.RowKit
set_option linter.unusedVariables false

theorem cellsD : Tryd.prog.cellsOf 36 = 2 := by kernel_rfl
theorem eqDg (d : Nat) (a b : Dg) (w : World) : (Op.equalIn (d + 1 + 1) 36 (dgV a) (dgV b)).run Tryd.prog w = .ok (decide (a = b)) w := by
  obtain ⟨i, hi⟩ : ∃ i, Tryd.prog.info? 34 = some i := Option.isSome_iff_exists.1 (by kernel_rfl)
  rw [run_equalIn_array w (d + 1) _ _ Tryd.underlying36 hi, cellsU]
  rw [show List.range 2 = [0, 1] from rfl]
  rw [items_step d 0 _ _ _ _ _ w rfl rfl, items_step d 1 _ _ _ _ _ w rfl rfl]
  obtain ⟨x, y⟩ := a
  obtain ⟨z, u⟩ := b
  simp only [Prod.mk.injEq, Bool.decide_and]
  have e1 : ((x : Int) == (z : Int)) = decide (x = z) := by rw [Bool.eq_iff_iff]; simp; omega
  have e2 : ((y : Int) == (u : Int)) = decide (y = u) := by rw [Bool.eq_iff_iff]; simp; omega
  rw [e1, e2]
  cases decide (x = z) <;> cases decide (y = u) <;> simp [Op.eqItems]
theorem part_dg (xs : Array Value) (off : Nat) (v : Value) (h : Value.agg (xs.extract off (off + 2)) = v) (w : World) : (part 36 xs off).run Tryd.prog w = .ok v w := by
  obtain ⟨i, hi⟩ : ∃ i, Tryd.prog.info? 36 = some i := Option.isSome_iff_exists.1 (by kernel_rfl)
  have hs := run_sizeOf w hi
  rw [cellsD] at hs
  simp [part, isAgg, run_underlying Tryd.underlying36, hs, h]
theorem eq_pr (P Q : Dg × Dg) (w : World) : (Op.equalIn 10000 48 (prV P) (prV Q)).run Tryd.prog w = .ok (decide (P = Q)) w := by
  obtain ⟨i, hi⟩ : ∃ i, Tryd.prog.info? 36 = some i := Option.isSome_iff_exists.1 (by kernel_rfl)
  rw [show (10000 : Nat) = 9997 + 1 + 1 + 1 from rfl, run_equalIn_array w (9997 + 1 + 1) _ _ Tryd.underlying48 hi, cellsD]
  rw [show List.range 2 = [0, 1] from rfl]
  have hD : ∀ (a b : Dg) (w : World), (Op.equalIn 9999 36 (dgV a) (dgV b)).run Tryd.prog w = .ok (decide (a = b)) w := fun a b w => eqDg 9997 a b w
  obtain ⟨a, b⟩ := P
  obtain ⟨c, e⟩ := Q
  have h0 := fun w => part_dg (#[Value.int .u64 ((a.1 : Nat) : Int), .int .u64 ((a.2 : Nat) : Int), .int .u64 ((b.1 : Nat) : Int), .int .u64 ((b.2 : Nat) : Int)]) 0 (dgV a) rfl w
  have h1 := fun w => part_dg (#[Value.int .u64 ((a.1 : Nat) : Int), .int .u64 ((a.2 : Nat) : Int), .int .u64 ((b.1 : Nat) : Int), .int .u64 ((b.2 : Nat) : Int)]) 2 (dgV b) rfl w
  have h2 := fun w => part_dg (#[Value.int .u64 ((c.1 : Nat) : Int), .int .u64 ((c.2 : Nat) : Int), .int .u64 ((e.1 : Nat) : Int), .int .u64 ((e.2 : Nat) : Int)]) 0 (dgV c) rfl w
  have h3 := fun w => part_dg (#[Value.int .u64 ((c.1 : Nat) : Int), .int .u64 ((c.2 : Nat) : Int), .int .u64 ((e.1 : Nat) : Int), .int .u64 ((e.2 : Nat) : Int)]) 2 (dgV e) rfl w
  simp only [Op.eqItems, Sem.run_bind, Nat.zero_mul, Nat.one_mul, h0, h1, h2, h3, Result.andThen_ok, hD, Prod.mk.injEq, Bool.decide_and]
  cases decide (a = c)
  · simp
  · simp only [Bool.true_and]
    simp [h1, h3, hD, Result.andThen]
    by_cases hbe : b = e <;> simp [hbe]
end Go.Proofs.YtnmfneeojnmebaaDoor

/- Package tree: Clash: what the call returns. -/
namespace Go.Proofs.YtnmfneeojnmebaaDoor
open Go.RowKit
set_option linter.unusedVariables false

/-- The memory of Clash: the two digests, the two pairs found, the two climbers. -/
structure CS (n0 n1 : Nat) (f : Int) (ia : Nat) (xa : Dg) (ib : Nat) (xb : Dg) (x y : Dg) (P1 P2 : Dg × Dg) (w : World) : Prop where
  ta : Blk n0 w [x.1, x.2]
  tb : Blk (n0 + 1) w [y.1, y.2]
  r1 : Blk (n0 + 1 + 1) w (fl4 (ix (pst P1)))
  r2 : Blk (n0 + 1 + 1 + 1) w (fl4 (ix (pst P2)))
  ca : Cb (n1 + 1 + 1) (n1 + 1) n1 f ia xa w
  cb : Cb (n1 + 1 + 1 + 1 + 1 + 1) (n1 + 1 + 1 + 1 + 1) (n1 + 1 + 1 + 1) f ib xb w
section
variable {n0 n1 : Nat} {f : Int} {ia ib : Nat} {xa xb x y : Dg} {P1 P2 : Dg × Dg} {w w' : World}
theorem CS.on (h : CS n0 n1 f ia xa ib xb x y P1 P2 w) (k : On w w') : CS n0 n1 f ia xa ib xb x y P1 P2 w' := ⟨h.ta.on k, h.tb.on k, h.r1.on k, h.r2.on k, h.ca.on k, h.cb.on k⟩
theorem CS.ap {C : Nat} (h : CS n0 n1 f ia xa ib xb x y P1 P2 w) (hn : n0 + 4 ≤ n1) (hC : n1 + 6 ≤ C) (k : Ap C w w') : CS n0 n1 f ia xa ib xb x y P1 P2 w' :=
  ⟨h.ta.ap k (by omega), h.tb.ap k (by omega), h.r1.ap k (by omega), h.r2.ap k (by omega), h.ca.ap k (by omega) (by omega) (by omega), h.cb.ap k (by omega) (by omega) (by omega)⟩
theorem CS.stepA {ia' : Nat} {xa' : Dg} (h : CS n0 n1 f ia xa ib xb x y P1 P2 w) (hn : n0 + 4 ≤ n1) (k : K2 (n1 + 1 + 1) (n1 + 1) w w') (hc : Cb (n1 + 1 + 1) (n1 + 1) n1 f ia' xa' w') : CS n0 n1 f ia' xa' ib xb x y P1 P2 w' :=
  ⟨h.ta.k2 k (by omega) (by omega), h.tb.k2 k (by omega) (by omega), h.r1.k2 k (by omega) (by omega), h.r2.k2 k (by omega) (by omega), hc, h.cb.k2 k (by omega) (by omega) (by omega) (by omega) (by omega) (by omega)⟩
theorem CS.stepB {ib' : Nat} {xb' : Dg} (h : CS n0 n1 f ia xa ib xb x y P1 P2 w) (hn : n0 + 4 ≤ n1) (k : K2 (n1 + 1 + 1 + 1 + 1 + 1) (n1 + 1 + 1 + 1 + 1) w w') (hc : Cb (n1 + 1 + 1 + 1 + 1 + 1) (n1 + 1 + 1 + 1 + 1) (n1 + 1 + 1 + 1) f ib' xb' w') : CS n0 n1 f ia xa ib' xb' x y P1 P2 w' :=
  ⟨h.ta.k2 k (by omega) (by omega), h.tb.k2 k (by omega) (by omega), h.r1.k2 k (by omega) (by omega), h.r2.k2 k (by omega) (by omega), h.ca.k2 k (by omega) (by omega) (by omega) (by omega) (by omega) (by omega), hc⟩
theorem CS.putA (h : CS n0 n1 f ia xa ib xb x y P1 P2 w) (hn : n0 + 4 ≤ n1) (z : Dg) : CS n0 n1 f ia xa ib xb z y P1 P2 ((w.setCell ⟨n0, 0, none⟩ (.int .u64 ((z.1 : Nat) : Int))).setCell ⟨n0, 1, none⟩ (.int .u64 ((z.2 : Nat) : Int))) := by
  have k := ap2 n0 w (.int .u64 ((z.1 : Nat) : Int)) (.int .u64 ((z.2 : Nat) : Int))
  exact ⟨h.ta.store2 z.1 z.2, h.tb.ap k (by omega), h.r1.ap k (by omega), h.r2.ap k (by omega), h.ca.ap k (by omega) (by omega) (by omega), h.cb.ap k (by omega) (by omega) (by omega)⟩
theorem CS.putB (h : CS n0 n1 f ia xa ib xb x y P1 P2 w) (hn : n0 + 4 ≤ n1) (z : Dg) : CS n0 n1 f ia xa ib xb x z P1 P2 ((w.setCell ⟨n0 + 1, 0, none⟩ (.int .u64 ((z.1 : Nat) : Int))).setCell ⟨n0 + 1, 1, none⟩ (.int .u64 ((z.2 : Nat) : Int))) := by
  have k := ap2 (n0 + 1) w (.int .u64 ((z.1 : Nat) : Int)) (.int .u64 ((z.2 : Nat) : Int))
  exact ⟨h.ta.ap k (by omega), h.tb.store2 z.1 z.2, h.r1.ap k (by omega), h.r2.ap k (by omega), h.ca.ap k (by omega) (by omega) (by omega), h.cb.ap k (by omega) (by omega) (by omega)⟩
theorem ap4 (T : Nat) (w : World) (a b c d : Value) : Ap T w ((((w.setCell ⟨T, 0, none⟩ a).setCell ⟨T, 1, none⟩ b).setCell ⟨T, 2, none⟩ c).setCell ⟨T, 3, none⟩ d) := ((((Ap.refl _ _).setCell _ _).setCell _ _).setCell _ _).setCell _ _
theorem CS.put1 (h : CS n0 n1 f ia xa ib xb x y P1 P2 w) (hn : n0 + 4 ≤ n1) (Q : Dg × Dg) : CS n0 n1 f ia xa ib xb x y Q P2 ((((w.setCell ⟨n0 + 1 + 1, 0, none⟩ (.int .u64 ((Q.1.1 : Nat) : Int))).setCell ⟨n0 + 1 + 1, 1, none⟩ (.int .u64 ((Q.1.2 : Nat) : Int))).setCell ⟨n0 + 1 + 1, 2, none⟩ (.int .u64 ((Q.2.1 : Nat) : Int))).setCell ⟨n0 + 1 + 1, 3, none⟩ (.int .u64 ((Q.2.2 : Nat) : Int))) := by
  have k := ap4 (n0 + 1 + 1) w (.int .u64 ((Q.1.1 : Nat) : Int)) (.int .u64 ((Q.1.2 : Nat) : Int)) (.int .u64 ((Q.2.1 : Nat) : Int)) (.int .u64 ((Q.2.2 : Nat) : Int))
  exact ⟨h.ta.ap k (by omega), h.tb.ap k (by omega), h.r1.store4 (pst Q), h.r2.ap k (by omega), h.ca.ap k (by omega) (by omega) (by omega), h.cb.ap k (by omega) (by omega) (by omega)⟩
theorem CS.put2 (h : CS n0 n1 f ia xa ib xb x y P1 P2 w) (hn : n0 + 4 ≤ n1) (Q : Dg × Dg) : CS n0 n1 f ia xa ib xb x y P1 Q ((((w.setCell ⟨n0 + 1 + 1 + 1, 0, none⟩ (.int .u64 ((Q.1.1 : Nat) : Int))).setCell ⟨n0 + 1 + 1 + 1, 1, none⟩ (.int .u64 ((Q.1.2 : Nat) : Int))).setCell ⟨n0 + 1 + 1 + 1, 2, none⟩ (.int .u64 ((Q.2.1 : Nat) : Int))).setCell ⟨n0 + 1 + 1 + 1, 3, none⟩ (.int .u64 ((Q.2.2 : Nat) : Int))) := by
  have k := ap4 (n0 + 1 + 1 + 1) w (.int .u64 ((Q.1.1 : Nat) : Int)) (.int .u64 ((Q.1.2 : Nat) : Int)) (.int .u64 ((Q.2.1 : Nat) : Int)) (.int .u64 ((Q.2.2 : Nat) : Int))
  exact ⟨h.ta.ap k (by omega), h.tb.ap k (by omega), h.r1.ap k (by omega), h.r2.store4 (pst Q), h.ca.ap k (by omega) (by omega) (by omega), h.cb.ap k (by omega) (by omega) (by omega)⟩
end
/-- The four boxes of Clash. -/
theorem cl_new {w : World} (hT : Tab w) (x y : Dg) (n0 : Nat) (hn : n0 = w.heap.size) : ∃ u, u = (((w.alloc (.cells #[.int .u64 ((x.1 : Nat) : Int), .int .u64 ((x.2 : Nat) : Int)] 36)).alloc (.cells #[.int .u64 ((y.1 : Nat) : Int), .int .u64 ((y.2 : Nat) : Int)] 36)).alloc (.cells #[.int .u64 0, .int .u64 0, .int .u64 0, .int .u64 0] 48)).alloc (.cells #[.int .u64 0, .int .u64 0, .int .u64 0, .int .u64 0] 48) ∧
    Blk n0 u [x.1, x.2] ∧ Blk (n0 + 1) u [y.1, y.2] ∧ Blk (n0 + 1 + 1) u (fl4 (ix (pst (zD, zD)))) ∧ Blk (n0 + 1 + 1 + 1) u (fl4 (ix (pst (zD, zD)))) ∧ On w u ∧ u.heap.size = n0 + 1 + 1 + 1 + 1 := by
  subst hn
  have o1 := (On.refl hT).alloc (.cells #[.int .u64 ((x.1 : Nat) : Int), .int .u64 ((x.2 : Nat) : Int)] 36)
  have o2 := (On.refl o1.tab).alloc (.cells #[.int .u64 ((y.1 : Nat) : Int), .int .u64 ((y.2 : Nat) : Int)] 36)
  have o3 := (On.refl o2.tab).alloc (.cells #[.int .u64 0, .int .u64 0, .int .u64 0, .int .u64 0] 48)
  have o4 := (On.refl o3.tab).alloc (.cells #[.int .u64 0, .int .u64 0, .int .u64 0, .int .u64 0] 48)
  have b1 := blk_new2 w x.1 x.2 36
  have b2 := blk_new2 (w.alloc (.cells #[.int .u64 ((x.1 : Nat) : Int), .int .u64 ((x.2 : Nat) : Int)] 36)) y.1 y.2 36
  have b3 := blk_new4 ((w.alloc (.cells #[.int .u64 ((x.1 : Nat) : Int), .int .u64 ((x.2 : Nat) : Int)] 36)).alloc (.cells #[.int .u64 ((y.1 : Nat) : Int), .int .u64 ((y.2 : Nat) : Int)] 36)) 0 0 0 0 48
  have b4 := blk_new4 (((w.alloc (.cells #[.int .u64 ((x.1 : Nat) : Int), .int .u64 ((x.2 : Nat) : Int)] 36)).alloc (.cells #[.int .u64 ((y.1 : Nat) : Int), .int .u64 ((y.2 : Nat) : Int)] 36)).alloc (.cells #[.int .u64 0, .int .u64 0, .int .u64 0, .int .u64 0] 48)) 0 0 0 0 48
  have s1 : (w.alloc (.cells #[.int .u64 ((x.1 : Nat) : Int), .int .u64 ((x.2 : Nat) : Int)] 36)).heap.size = w.heap.size + 1 := by simp
  have s2 : ((w.alloc (.cells #[.int .u64 ((x.1 : Nat) : Int), .int .u64 ((x.2 : Nat) : Int)] 36)).alloc (.cells #[.int .u64 ((y.1 : Nat) : Int), .int .u64 ((y.2 : Nat) : Int)] 36)).heap.size = w.heap.size + 1 + 1 := by simp
  have s3 : (((w.alloc (.cells #[.int .u64 ((x.1 : Nat) : Int), .int .u64 ((x.2 : Nat) : Int)] 36)).alloc (.cells #[.int .u64 ((y.1 : Nat) : Int), .int .u64 ((y.2 : Nat) : Int)] 36)).alloc (.cells #[.int .u64 0, .int .u64 0, .int .u64 0, .int .u64 0] 48)).heap.size = w.heap.size + 1 + 1 + 1 := by simp
  rw [s1] at b2
  rw [s2] at b3
  rw [s3] at b4
  exact ⟨_, rfl, ((b1.on o2).on o3).on o4, (b2.on o3).on o4, b3.on o4, b4, o1.trans (o2.trans (o3.trans o4)), by simp⟩
/-- What Clash returns. -/
def clashV (f i : Int) (a b : Dg) (p q : List Dg) : (Dg × Dg) × (Dg × Dg) × Bool :=
  if p.length = q.length ∧ opnB f i a p = true ∧ opnB f i b q = true ∧ clF f i.toNat a p p.length = clF f i.toNat b q p.length then csF f i.toNat a b p q p.length else ((zD, zD), (zD, zD), false)
abbrev clV (r : (Dg × Dg) × (Dg × Dg) × Bool) : Value := .tuple #[prV r.1, prV r.2.1, .bool r.2.2]
theorem zero_pairs {w : World} {R S : Nat} {g g' : Nat → Nat} (hne : R ≠ S) (hR : Blk R w (fl4 g)) (hS : Blk S w (fl4 g')) : (((((((((w.setCell ⟨R, 0, none⟩ (.int .u64 0)).setCell ⟨R, 1, none⟩ (.int .u64 0)).setCell ⟨R, 2, none⟩ (.int .u64 0)).setCell ⟨R, 3, none⟩ (.int .u64 0)).setCell ⟨S, 0, none⟩ (.int .u64 0)).setCell ⟨S, 1, none⟩ (.int .u64 0)).setCell ⟨S, 2, none⟩ (.int .u64 0)).setCell ⟨S, 3, none⟩ (.int .u64 0)).cell? ⟨R, 0, none⟩ = some (.int .u64 0) ∧ ((((((((w.setCell ⟨R, 0, none⟩ (.int .u64 0)).setCell ⟨R, 1, none⟩ (.int .u64 0)).setCell ⟨R, 2, none⟩ (.int .u64 0)).setCell ⟨R, 3, none⟩ (.int .u64 0)).setCell ⟨S, 0, none⟩ (.int .u64 0)).setCell ⟨S, 1, none⟩ (.int .u64 0)).setCell ⟨S, 2, none⟩ (.int .u64 0)).setCell ⟨S, 3, none⟩ (.int .u64 0)).cell? ⟨R, 1, none⟩ = some (.int .u64 0) ∧ ((((((((w.setCell ⟨R, 0, none⟩ (.int .u64 0)).setCell ⟨R, 1, none⟩ (.int .u64 0)).setCell ⟨R, 2, none⟩ (.int .u64 0)).setCell ⟨R, 3, none⟩ (.int .u64 0)).setCell ⟨S, 0, none⟩ (.int .u64 0)).setCell ⟨S, 1, none⟩ (.int .u64 0)).setCell ⟨S, 2, none⟩ (.int .u64 0)).setCell ⟨S, 3, none⟩ (.int .u64 0)).cell? ⟨R, 2, none⟩ = some (.int .u64 0) ∧ ((((((((w.setCell ⟨R, 0, none⟩ (.int .u64 0)).setCell ⟨R, 1, none⟩ (.int .u64 0)).setCell ⟨R, 2, none⟩ (.int .u64 0)).setCell ⟨R, 3, none⟩ (.int .u64 0)).setCell ⟨S, 0, none⟩ (.int .u64 0)).setCell ⟨S, 1, none⟩ (.int .u64 0)).setCell ⟨S, 2, none⟩ (.int .u64 0)).setCell ⟨S, 3, none⟩ (.int .u64 0)).cell? ⟨R, 3, none⟩ = some (.int .u64 0)) ∧ ((((((((w.setCell ⟨R, 0, none⟩ (.int .u64 0)).setCell ⟨R, 1, none⟩ (.int .u64 0)).setCell ⟨R, 2, none⟩ (.int .u64 0)).setCell ⟨R, 3, none⟩ (.int .u64 0)).setCell ⟨S, 0, none⟩ (.int .u64 0)).setCell ⟨S, 1, none⟩ (.int .u64 0)).setCell ⟨S, 2, none⟩ (.int .u64 0)).setCell ⟨S, 3, none⟩ (.int .u64 0)).cell? ⟨S, 0, none⟩ = some (.int .u64 0) ∧ ((((((((w.setCell ⟨R, 0, none⟩ (.int .u64 0)).setCell ⟨R, 1, none⟩ (.int .u64 0)).setCell ⟨R, 2, none⟩ (.int .u64 0)).setCell ⟨R, 3, none⟩ (.int .u64 0)).setCell ⟨S, 0, none⟩ (.int .u64 0)).setCell ⟨S, 1, none⟩ (.int .u64 0)).setCell ⟨S, 2, none⟩ (.int .u64 0)).setCell ⟨S, 3, none⟩ (.int .u64 0)).cell? ⟨S, 1, none⟩ = some (.int .u64 0) ∧ ((((((((w.setCell ⟨R, 0, none⟩ (.int .u64 0)).setCell ⟨R, 1, none⟩ (.int .u64 0)).setCell ⟨R, 2, none⟩ (.int .u64 0)).setCell ⟨R, 3, none⟩ (.int .u64 0)).setCell ⟨S, 0, none⟩ (.int .u64 0)).setCell ⟨S, 1, none⟩ (.int .u64 0)).setCell ⟨S, 2, none⟩ (.int .u64 0)).setCell ⟨S, 3, none⟩ (.int .u64 0)).cell? ⟨S, 2, none⟩ = some (.int .u64 0) ∧ ((((((((w.setCell ⟨R, 0, none⟩ (.int .u64 0)).setCell ⟨R, 1, none⟩ (.int .u64 0)).setCell ⟨R, 2, none⟩ (.int .u64 0)).setCell ⟨R, 3, none⟩ (.int .u64 0)).setCell ⟨S, 0, none⟩ (.int .u64 0)).setCell ⟨S, 1, none⟩ (.int .u64 0)).setCell ⟨S, 2, none⟩ (.int .u64 0)).setCell ⟨S, 3, none⟩ (.int .u64 0)).cell? ⟨S, 3, none⟩ = some (.int .u64 0) := by
  have h1 := (hR.store4 ⟨0, 0, 0, 0⟩).other4 (C := S) hne (.int .u64 0) (.int .u64 0) (.int .u64 0) (.int .u64 0)
  have h2 := (hS.other4 (C := R) hne.symm (.int .u64 0) (.int .u64 0) (.int .u64 0) (.int .u64 0)).store4 ⟨0, 0, 0, 0⟩
  exact ⟨h1.cells4, h2.cells4⟩
theorem build_pr (w : World) : (Instr.build 48 #[]).run Tryd.prog w = .ok (.agg #[.int .u64 0, .int .u64 0, .int .u64 0, .int .u64 0]) w := run_build w _ #[] #[.int .u64 0, .int .u64 0, .int .u64 0, .int .u64 0] (by kernel_rfl)
set_option maxHeartbeats 1000000 in
set_option maxRecDepth 100000 in
theorem clash_no (f i : Int) (a b : Dg) (p q : List Dg) (pv qv : Value) (w : World) (hT : Tab w) (ha : SmD a) (hb : SmD b) (hP : DR w pv p) (hQ : DR w qv q) (hno : ¬ (p.length = q.length ∧ opnB f i a p = true ∧ opnB f i b q = true)) :
    Calls Tryd.prog 31 #[.int .i64 f, .int .i64 i, dgV a, dgV b, pv, qv] w fun e w' => e = .returned (.tuple #[.agg #[.int .u64 0, .int .u64 0, .int .u64 0, .int .u64 0], .agg #[.int .u64 0, .int .u64 0, .int .u64 0, .int .u64 0], .bool false]) ∧ On w w' := by
  obtain ⟨pa, pc, rfl⟩ := hP.shape
  obtain ⟨qa, qc, rfl⟩ := hQ.shape
  obtain ⟨n0, hn0⟩ : ∃ n0, n0 = w.heap.size := ⟨_, rfl⟩
  obtain ⟨u, hu, hB⟩ := cl_new hT a b n0 hn0
  have HU := Lib.hid hu
  have HB := Lib.hid hB
  have HN0 := Lib.hid hn0
  have hou := hB.2.2.2.2.1
  have hpl := hP.2.1
  have hql := hQ.2.1
  have HI1 : Hid (∀ w', On u w' → Calls Tryd.prog 51 #[.int .i64 f, .int .i64 i, dgV a, .slice pa p.length pc] w' fun e w'' => e = .returned (.bool (opnB f i a p)) ∧ On w' w'') := fun w' h => isOpening_any f i a p _ w' h.tab ha ((hP.on hou).on h)
  have HI2 : Hid (∀ w', On u w' → Calls Tryd.prog 51 #[.int .i64 f, .int .i64 i, dgV b, .slice qa q.length qc] w' fun e w'' => e = .returned (.bool (opnB f i b q)) ∧ On w' w'') := fun w' h => isOpening_any f i b q _ w' h.tab hb ((hQ.on hou).on h)
  obtain ⟨x0, x1⟩ := hB.1.cells2
  have HY := Lib.hid (fun w' (h : On u w') => (hB.2.1.on h).cells2)
  obtain ⟨y0, y1⟩ := hB.2.1.cells2
  clear hT hP hQ hu hB hou hn0
  by_cases hl : p.length = q.length
  rotate_left
  · have hne : ¬ (p.length : Int) = (q.length : Int) := by omega
    have hnb : ((p.length : Int) != (q.length : Int)) = true := by simp; omega
    clear hno hl
    go_enter Tryd.func31, Tryd.ntmps31
    go_upto_region 1 with fail
    rw [← HN0.out, ← HU.out]
    go_upto_region 2 with fail
    have HRz := Lib.hid (HB.out.2.2.1.on (On.refl HB.out.2.2.2.2.1.tab))
    have HSz := Lib.hid (HB.out.2.2.2.1.on (On.refl HB.out.2.2.2.2.1.tab))
    have HOz := Lib.hid (HB.out.2.2.2.2.1.trans (On.refl HB.out.2.2.2.2.1.tab))
    obtain ⟨r0, r1, r2, r3⟩ := HRz.out.cells4
    simp only [pst, ix] at r0 r1 r2 r3
    obtain ⟨g0, g1, g2, g3⟩ := HRz.out.free4
    have HSy := Lib.hid (HSz.out.other4 (C := n0 + 1 + 1) (by omega) (.int .u64 0) (.int .u64 0) (.int .u64 0) (.int .u64 0))
    obtain ⟨s0, s1, s2, s3⟩ := HSy.out.cells4
    simp only [pst, ix] at s0 s1 s2 s3
    obtain ⟨k0, k1, k2, k3⟩ := HSy.out.free4
    have HE := Lib.hid (zero_pairs (by omega) HRz.out HSz.out)
    clear HRz HSz HSy
    refine wp_region_lit ?_
    refine wpList_built rfl 48 [] rfl [] rfl #[.int .u64 0, .int .u64 0, .int .u64 0, .int .u64 0] (build_pr _) ?_
    refine wpList_built rfl 48 [] rfl [] rfl #[.int .u64 0, .int .u64 0, .int .u64 0, .int .u64 0] (build_pr _) ?_
    go_wp2
    obtain ⟨⟨p0, p1, p2, p3⟩, q0, q1, q2, q3⟩ := HE.out
    refine bodyPost_ret (v := .tuple #[.agg #[.int .u64 0, .int .u64 0, .int .u64 0, .int .u64 0], .agg #[.int .u64 0, .int .u64 0, .int .u64 0, .int .u64 0], .bool false]) (by simp [results, Tryd.results31, go_sem, p0, p1, p2, p3, q0, q1, q2, q3]; try rfl) rfl ?_
    have hN0 := HN0.out
    exact ⟨rfl, (HOz.out.store4 (by omega) _ _ _ _).store4 (by omega) _ _ _ _⟩
  have hnb : ((p.length : Int) != (q.length : Int)) = false := by simp; omega
  cases h1 : opnB f i a p
  · rw [h1] at HI1
    clear hno hl h1
    go_enter Tryd.func31, Tryd.ntmps31
    go_upto_region 1 with fail
    rw [← HN0.out, ← HU.out]
    go_upto_region 2 with (go_at_call 51; (with_reducible refine (HI1.out _ (On.refl HB.out.2.2.2.2.1.tab)).mono ?_); rintro e w1 ⟨rfl, hO1⟩; have HO1 := Lib.hid (hO1); clear hO1)
    have HRz := Lib.hid (HB.out.2.2.1.on HO1.out)
    have HSz := Lib.hid (HB.out.2.2.2.1.on HO1.out)
    have HOz := Lib.hid (HB.out.2.2.2.2.1.trans HO1.out)
    obtain ⟨r0, r1, r2, r3⟩ := HRz.out.cells4
    simp only [pst, ix] at r0 r1 r2 r3
    obtain ⟨g0, g1, g2, g3⟩ := HRz.out.free4
    have HSy := Lib.hid (HSz.out.other4 (C := n0 + 1 + 1) (by omega) (.int .u64 0) (.int .u64 0) (.int .u64 0) (.int .u64 0))
    obtain ⟨s0, s1, s2, s3⟩ := HSy.out.cells4
    simp only [pst, ix] at s0 s1 s2 s3
    obtain ⟨k0, k1, k2, k3⟩ := HSy.out.free4
    have HE := Lib.hid (zero_pairs (by omega) HRz.out HSz.out)
    clear HRz HSz HSy
    refine wp_region_lit ?_
    refine wpList_built rfl 48 [] rfl [] rfl #[.int .u64 0, .int .u64 0, .int .u64 0, .int .u64 0] (build_pr _) ?_
    refine wpList_built rfl 48 [] rfl [] rfl #[.int .u64 0, .int .u64 0, .int .u64 0, .int .u64 0] (build_pr _) ?_
    go_wp2
    obtain ⟨⟨p0, p1, p2, p3⟩, q0, q1, q2, q3⟩ := HE.out
    refine bodyPost_ret (v := .tuple #[.agg #[.int .u64 0, .int .u64 0, .int .u64 0, .int .u64 0], .agg #[.int .u64 0, .int .u64 0, .int .u64 0, .int .u64 0], .bool false]) (by simp [results, Tryd.results31, go_sem, p0, p1, p2, p3, q0, q1, q2, q3]; try rfl) rfl ?_
    have hN0 := HN0.out
    exact ⟨rfl, (HOz.out.store4 (by omega) _ _ _ _).store4 (by omega) _ _ _ _⟩
  have h2 : opnB f i b q = false := by
    cases h : opnB f i b q
    · rfl
    · exact absurd ⟨hl, h1, h⟩ hno
  rw [h1] at HI1
  rw [h2] at HI2
  clear hno hl h1 h2 y0 y1
  go_enter Tryd.func31, Tryd.ntmps31
  go_upto_region 1 with fail
  rw [← HN0.out, ← HU.out]
  go_upto_region 2 with (first | (go_at_call 51; (with_reducible refine (HI1.out _ (On.refl HB.out.2.2.2.2.1.tab)).mono ?_); rintro e w1 ⟨rfl, hO1⟩; have HO1 := Lib.hid (hO1); clear hO1; obtain ⟨y0, y1⟩ := HY.out _ HO1.out) | (go_at_call 51; (with_reducible refine (HI2.out _ HO1.out).mono ?_); rintro e w2 ⟨rfl, hO2⟩; have HO2 := Lib.hid (HO1.out.trans hO2); clear hO2))
  have HRz := Lib.hid (HB.out.2.2.1.on HO2.out)
  have HSz := Lib.hid (HB.out.2.2.2.1.on HO2.out)
  have HOz := Lib.hid (HB.out.2.2.2.2.1.trans HO2.out)
  obtain ⟨r0, r1, r2, r3⟩ := HRz.out.cells4
  simp only [pst, ix] at r0 r1 r2 r3
  obtain ⟨g0, g1, g2, g3⟩ := HRz.out.free4
  have HSy := Lib.hid (HSz.out.other4 (C := n0 + 1 + 1) (by omega) (.int .u64 0) (.int .u64 0) (.int .u64 0) (.int .u64 0))
  obtain ⟨s0, s1, s2, s3⟩ := HSy.out.cells4
  simp only [pst, ix] at s0 s1 s2 s3
  obtain ⟨k0, k1, k2, k3⟩ := HSy.out.free4
  have HE := Lib.hid (zero_pairs (by omega) HRz.out HSz.out)
  clear HRz HSz HSy
  refine wp_region_lit ?_
  refine wpList_built rfl 48 [] rfl [] rfl #[.int .u64 0, .int .u64 0, .int .u64 0, .int .u64 0] (build_pr _) ?_
  refine wpList_built rfl 48 [] rfl [] rfl #[.int .u64 0, .int .u64 0, .int .u64 0, .int .u64 0] (build_pr _) ?_
  go_wp2
  obtain ⟨⟨p0, p1, p2, p3⟩, q0, q1, q2, q3⟩ := HE.out
  refine bodyPost_ret (v := .tuple #[.agg #[.int .u64 0, .int .u64 0, .int .u64 0, .int .u64 0], .agg #[.int .u64 0, .int .u64 0, .int .u64 0, .int .u64 0], .bool false]) (by simp [results, Tryd.results31, go_sem, p0, p1, p2, p3, q0, q1, q2, q3]; try rfl) rfl ?_
  have hN0 := HN0.out
  exact ⟨rfl, (HOz.out.store4 (by omega) _ _ _ _).store4 (by omega) _ _ _ _⟩
end Go.Proofs.YtnmfneeojnmebaaDoor
