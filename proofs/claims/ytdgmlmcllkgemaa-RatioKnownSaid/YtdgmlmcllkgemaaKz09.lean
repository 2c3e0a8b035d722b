/- nat of the laws: a number of its own. -/
import Derived.Test.YtdgmlmcllkgemaaKz08
import Derived.Laws.Append
set_option linter.unusedSimpArgs false
set_option linter.unusedVariables false
/- nat of the laws: a number of its own. -/
namespace Go.Proofs.Ytdgmlmcllkgemaa
open Go.RowKit
set_option linter.unusedVariables false

theorem run_append_nil2 {P : Program} (w : World) (t u ty e : TypeId) (i : TypeInfo) (z : Value) (ht : P.underlying t = some (.slice e)) (hu : P.underlying u = some (.slice e)) (hi : P.info? e = some i) (hz : i.zero = some z)
    (a : Addr) (n c : Nat) (news : List Value) (hl : news.length = n * i.size) (hnews : ∀ j v, news[j]? = some v → w.cell? (a.add j) = some v)
    (h0 : 0 < n) (h63 : (n : Int) ≤ 9223372036854775807) (h48 : n * i.bytes ≤ 281474976710656) :
    (Builtin.append_ #[t, u] ty #[.slice none 0 0, .slice (some a) n c]).run P w =
      .ok (.slice (some ⟨w.heap.size, 0, none⟩) n (grownCap w n 0 e)) (w.drew.alloc (.cells (news.toArray ++ Builtin.zeroCells z.cells (grownCap w n 0 e - n)) e)) := by
  have hn : n ≠ 0 := by omega
  have h63' : ¬ (9223372036854775807 < (n : Int)) := by omega
  have h48' : ¬ (281474976710656 < Builtin.nextslicecap n 0 * i.bytes) := by rw [nextslicecap_zero h0]; omega
  have hf := run_firstCells_some (P := P) w.drew i.size n a n c news hl (by simpa using hnews)
  simp [Builtin.append_, run_underlying ht, run_underlying hu, sizeOf, typeInfo, zeroValue, hi, hz, Builtin.lenOf, hn, h63', h48', Question.forced, run_firstCells_none, hf, newRow, grownCap]
theorem run_append_none2 {P : Program} (w : World) (t u ty e : TypeId) (i : TypeInfo) (ht : P.underlying t = some (.slice e)) (hu : P.underlying u = some (.slice e)) (hi : P.info? e = some i) (oa : Option Addr) (c : Nat) :
    (Builtin.append_ #[t, u] ty #[.slice none 0 0, .slice oa 0 c]).run P w = .ok (.slice none 0 0) w := by
  cases oa <;> simp [Builtin.append_, run_underlying ht, run_underlying hu, sizeOf, typeInfo, hi, Builtin.lenOf, Builtin.firstCells, loadCells, loadCellsFrom]
theorem wp_append2 {P : Program} {w w' : World} {ops : Array Oper} {rest : List Oper} {o : Oper} {a : Act} {Q : Exit → Act → World → Prop} (hgd : o.guard = none) (s x : Operand) (t u : TypeId)
    (ho : o.op = .call { callee := .builtin .append, args := #[s, x], argTypes := #[t, u] }) (vs vx v' : Value) (hs : a.eval s = vs) (hx : a.eval x = vx) (hrun : ∀ ty, (Builtin.append_ #[t, u] ty #[vs, vx]).run P w = .ok v' w')
    (h : wpList P ops Q rest (a.put o.dst v') w') : wpList P ops Q (o :: rest) a w :=
  wpList_plain hgd fun K hK => by
    unfold Oper.wp execOp
    simp only [ho, resolve, invoke, builtin, Sem.run_bind, Sem.run_pure, Result.andThen_ok, List.map_toArray, List.map_cons, List.map_nil, hs, hx, hrun]
    exact hK _ _ h
/-- What an append of k limbs onto nothing gives. -/
theorem append_limbs (w : World) (t u : TypeId) (ht : Try.prog.underlying t = some (.slice 54)) (hu : Try.prog.underlying u = some (.slice 54)) (oa : Option Addr) (k c : Nat) (X : Int) (hR : Rd w oa k X) (hk : k ≤ 1000000) :
    ∃ v' w', (∀ ty, (Builtin.append_ #[t, u] ty #[.slice none 0 0, .slice oa k c]).run Try.prog w = .ok v' w') ∧ Lv w' v' k X ∧ On w w' := by
  obtain ⟨i0, hi, hz0, hz1, hz2⟩ := info_parts info_u32
  rcases Nat.eq_zero_or_pos k with h0 | h0
  · subst h0
    exact ⟨_, _, fun ty => run_append_none2 w t u ty _ i0 ht hu hi oa c, ⟨none, 0, rfl, Nat.le_refl _, by omega, fun j hj => by omega⟩, On.refl _⟩
  · obtain ⟨b, off, rfl, _⟩ := hR 0 h0
    have hR' : ∀ j, j < k → w.cell? ⟨b, off + j, none⟩ = some (.int .u32 ((dg X j : Nat) : Int)) := fun j hj => by
      obtain ⟨b', off', h1, h2⟩ := hR j hj
      simp only [Option.some.injEq, Addr.mk.injEq] at h1
      obtain ⟨rfl, rfl, -⟩ := h1
      exact h2
    have hrun := fun ty => run_append_nil2 (P := Try.prog) w t u ty 54 i0 (.int .u32 0) ht hu hi hz0 ⟨b, off, none⟩ k c (limbVals X k) (by rw [limbVals_len, hz1, Nat.mul_one])
      (fun j v hj => by
        have hj' : j < k := by have := (List.getElem?_eq_some_iff.1 hj).1; rwa [limbVals_len] at this
        rw [limbVals_get _ _ _ hj'] at hj
        rw [← hj, show (⟨b, off, none⟩ : Addr).add j = ⟨b, off + j, none⟩ by unfold Addr.add; split <;> simp_all]
        exact hR' j hj') h0 (by omega) (by rw [hz2]; omega)
    have hge := grownCap_ge w k 0 54
    have hle := grownCap_le_maxLen w k 0 54 (by unfold maxLen; omega)
    refine ⟨_, _, hrun, ⟨_, _, rfl, hge, by unfold maxLen at hle; omega, fun j hj => ⟨_, _, rfl, ?_⟩⟩, (On.refl w).drew.alloc _⟩
    rw [Nat.zero_add]
    have hs : w.drew.heap.size = w.heap.size := rfl
    rw [← hs, World.cell?_alloc_new, Array.getElem?_append_left (by simp [limbVals_len]; exact hj)]
    have := limbVals_get X k j hj
    simpa using this

/-- The list that comes in. -/
def Av (w : World) (v : Value) (m x : Nat) : Prop := ∃ oa cap, v = .slice oa m cap ∧ m ≤ cap ∧ cap ≤ 9223372036854775807 ∧ Rd w oa m (x : Int) ∧ x < 4294967296 ^ m ∧ (oa = none → cap = 0)
theorem Av.on {w w' : World} {v : Value} {m x : Nat} (h : Av w v m x) (k : On w w') : Av w' v m x := by
  obtain ⟨oa, cap, h1, h2, h3, h4, h5⟩ := h
  exact ⟨oa, cap, h1, h2, h3, h4.on k, h5⟩
theorem cut_nl {x k : Nat} (h : k = 0 ∨ dg (x : Int) (k - 1) ≠ 0) : nl (x % 4294967296 ^ k) = k ∧ ∀ j, j < k → dg (x : Int) j = dg ((x % 4294967296 ^ k : Nat) : Int) j := by
  have hd : ∀ j, j < k → dg (x : Int) j = dg ((x % 4294967296 ^ k : Nat) : Int) j := fun j hj => by rw [Int.natCast_emod, pw_cast, dg_mod _ hj]
  refine ⟨?_, hd⟩
  rcases Nat.eq_zero_or_pos k with h0 | h0
  · subst h0; rw [Nat.pow_zero, Nat.mod_one, nl_zero]
  · obtain ⟨j, rfl⟩ : ∃ j, k = j + 1 := ⟨k - 1, by omega⟩
    refine trim_stop (Nat.mod_lt _ (pw_pos _)) ?_
    rw [← hd j (by omega)]
    rcases h with h | h
    · omega
    · simpa using h
end Go.Proofs.Ytdgmlmcllkgemaa
