/- The document's own Join: what the call returns. -/
import Derived.Test.YtdhacfagmfecgaaDoorPparB
namespace Go.Proofs.YtdhacfagmfecgaaDoor
open Go.RowKit
set_option linter.unusedVariables false

/-- The numbers of the first j lists, and i of list j, stand at their places; all others are 0. -/
def Jr (m : Nat) (F : Nat → List Nat) (j i : Nat) (o : List Nat) : Prop :=
  ∀ t, o.getD t 0 = if t % m < j ∨ (t % m = j ∧ t / m < i) then (F (t % m)).getD (t / m) 0 else 0
theorem Jr.start (m : Nat) (F : Nat → List Nat) : Jr m F 0 0 [] := fun t => by
  rw [if_neg (by rintro (h | ⟨_, h⟩) <;> exact absurd h (Nat.not_lt_zero _))]; rfl
theorem getD_snoc0 (o : List Nat) (t : Nat) : (o ++ [0]).getD t 0 = o.getD t 0 := by
  rw [getD_snoc]
  split
  · rfl
  · rw [getD_over (l := o) (by omega)]; split <;> rfl
theorem Jr.pad {m : Nat} {F : Nat → List Nat} {j i : Nat} {o : List Nat} (h : Jr m F j i o) : Jr m F j i (o ++ [0]) := fun t => by rw [getD_snoc0]; exact h t
theorem Jr.step {m : Nat} {F : Nat → List Nat} {j i : Nat} {o : List Nat} (h : Jr m F j i o) (hj : j < m) (hn : i * m + j < o.length) : Jr m F j (i + 1) (o.set (i * m + j) ((F j).getD i 0)) := fun t => by
  have e1 : (i * m + j) % m = j := by rw [Nat.mul_comm, Nat.mul_add_mod, Nat.mod_eq_of_lt hj]
  have e2 : (i * m + j) / m = i := by rw [Nat.mul_comm, Nat.mul_add_div (by omega), Nat.div_eq_of_lt hj, Nat.add_zero]
  rw [getD_set1 _ _ _ _ hn]
  by_cases e : t = i * m + j
  · subst e
    rw [if_pos rfl, if_pos (.inr ⟨e1, by omega⟩), e1, e2]
  · rw [if_neg e, h t]
    by_cases c : t % m < j ∨ (t % m = j ∧ t / m < i)
    · rw [if_pos c, if_pos (by omega)]
    · rw [if_neg c, if_neg]
      rintro (c2 | ⟨c2, c3⟩)
      · exact c (.inl c2)
      · have := Nat.div_add_mod t m
        have e3 : t / m = i := by
          rcases Nat.lt_or_ge (t / m) i with c4 | c4
          · exact absurd (.inr ⟨c2, c4⟩) c
          · omega
        rw [e3, c2, Nat.mul_comm] at this
        exact e this.symm
theorem Jr.next {m : Nat} {F : Nat → List Nat} {j i : Nat} {o : List Nat} (h : Jr m F j i o) (hi : (F j).length ≤ i) : Jr m F (j + 1) 0 o := fun t => by
  rw [h t]
  by_cases c : t % m < j ∨ (t % m = j ∧ t / m < i)
  · rw [if_pos c, if_pos (by omega)]
  · rw [if_neg c]
    by_cases c2 : t % m < j + 1 ∨ (t % m = j + 1 ∧ t / m < 0)
    · rw [if_pos c2]
      have e : t % m = j := by
        rcases c2 with h | ⟨_, h⟩
        · rcases Nat.lt_or_ge (t % m) j with h2 | h2
          · exact absurd (.inl h2) c
          · omega
        · exact absurd h (Nat.not_lt_zero _)
      have h2 : ¬ t / m < i := fun h => c (.inr ⟨e, h⟩)
      rw [e, getD_over (Nat.le_trans hi (Nat.not_lt.1 h2))]
    · rw [if_neg c2]
theorem Jr.done {m : Nat} {F : Nat → List Nat} {o : List Nat} (f : Int) (hm : 0 < m) (h : Jr m F m 0 o) (t : Nat) : (normF f o).getD t 0 = jR f m F t := by
  rw [normF_getD, h t, if_pos (.inl (Nat.mod_lt _ hm))]; rfl

def sliceN : Value → Nat
  | .slice _ n _ => n
  | _ => 0
set_option maxHeartbeats 1000000 in
theorem rjoin_any (f : Int) (m : Nat) (F : Nat → List Nat) (v : Value) (w : World) (hT : Tab w) (hm64 : m ≤ 64) (hR : Mat w v m F) (hL : ∀ j, j < m → (F j).length ≤ 20) :
    Calls Tryd.prog 30 #[.int .i64 f, v] w fun e w' => (∃ J a n c, e = .returned (.slice a n c) ∧ Reads w' (.slice a n c) J ∧ Norm J ∧ (0 < m → ∀ t, J.getD t 0 = jR f m F t) ∧ (m = 0 → J = [])) ∧ On w w' := by
  obtain ⟨a, cap, rfl⟩ := hR.shape
  have HR := Lib.hid hR; have HL := Lib.hid hL; have H0 := Lib.hid (On.refl hT)
  clear hR hL hT
  have hm2' : ¬ (64 < (m : Int)) := by omega
  go_enter Tryd.func30, Tryd.ntmps30
  go_wp2
  go_loopw [6, 7] (fun vo vj wr => ∃ (j n : Nat) (ao : Option Addr) (co : Nat) (o : List Nat), j ≤ m ∧ vj = .int .i64 (j : Int) ∧ vo = .slice ao n co ∧ n ≤ 1280 ∧ Hid (o.length = n ∧ (j = 0 → o = []) ∧ Jr m F j 0 o ∧ (∀ x ∈ o, x ≤ 18446744073709551615) ∧ On w wr ∧ Ow w.heap.size wr (.slice ao n co) o)) (fun _ vj _ => m - (intOf vj).toNat)
  case atStart => exact ⟨0, 0, none, 0, [], Nat.zero_le _, rfl, rfl, by omega, rfl, fun _ => rfl, Jr.start m F, by simp, H0.out, Ow.nil _ _⟩
  case round =>
    rename World => wr
    obtain ⟨j, n, ao, co, o, hj, rfl, rfl, hnb, HI⟩ := hrel
    by_cases hjm : j < m
    · have HJM := Lib.hid hjm
      obtain ⟨bP, oP, uP, hPe, hPc, hPr, hPs⟩ : ∃ b o' u, a = some ⟨b, o', none⟩ ∧ (∀ W, On w W → W.cell? ⟨b, o' + j, none⟩ = some u) ∧ (∀ W, On w W → Reads W u (F j)) ∧ Shape u (F j) := by
        obtain ⟨a1, c1, e1, e2⟩ := HR.out
        simp only [Value.slice.injEq, true_and] at e1
        obtain ⟨rfl, rfl⟩ := e1
        obtain ⟨b, o', u, h1, h2, h3, h4⟩ := e2 j hjm
        exact ⟨b, o', u, h1, fun W hW => by rw [hW.cell (p := ⟨b, o' + j, none⟩) (cell_size h2)]; exact h2, fun W hW => h3.on hW, h4⟩
      subst hPe
      obtain ⟨aP, cP, hPv⟩ := (hPr w H0.out).shape
      subst hPv
      have hFl := HL.out j hjm
      obtain ⟨L, hLe⟩ : ∃ L, L = F j := ⟨_, rfl⟩
      rw [← hLe] at hFl hPr hPs
      rw [← hLe] at hPc
      have HPC := Lib.hid hPc; have HPR := Lib.hid hPr
      have HLE := Lib.hid hLe
      clear hPc hPr hPs hLe
      obtain ⟨ln, hln⟩ : ∃ ln, ln = L.length := ⟨_, rfl⟩
      rw [← hln] at hFl HPC HPR
      have HLN := Lib.hid hln; clear hln
      go_wp2_with fail
      go_loopw [6, 8] (fun vo vi wq => ∃ (i n : Nat) (ao : Option Addr) (co : Nat) (o : List Nat), i ≤ ln ∧ vi = .int .i64 (i : Int) ∧ vo = .slice ao n co ∧ n ≤ 1280 ∧ Hid (o.length = n ∧ Jr m F j i o ∧ (∀ x ∈ o, x ≤ 18446744073709551615) ∧ On w wq ∧ Ow w.heap.size wq (.slice ao n co) o)) (fun _ vi _ => ln - (intOf vi).toNat)
      case atStart => exact ⟨0, n, ao, co, o, Nat.zero_le _, rfl, rfl, hnb, HI.out.1, HI.out.2.2.1, HI.out.2.2.2.1, HI.out.2.2.2.2.1, HI.out.2.2.2.2.2⟩
      case round =>
        rename World => wq
        obtain ⟨i, n2, ao2, co2, o2, hi, rfl, rfl, hnb2, HI2⟩ := hrel
        have hcP := HPC.out wq HI2.out.2.2.2.1
        by_cases hil : i < ln
        · have HIL := Lib.hid hil
          obtain ⟨p, hp⟩ : ∃ p, p = i * m := ⟨_, rfl⟩
          have hpb : p ≤ 19 * 64 := by rw [hp]; exact Nat.mul_le_mul (by omega) hm64
          have hpm : (i : Int) * (m : Int) = (p : Int) := by rw [hp]; simp
          obtain ⟨k, hk⟩ : ∃ k, k = p + j := ⟨_, rfl⟩
          have hkb : k ≤ 1279 := by have := HJM.out; omega
          have hka : (p : Int) + (j : Int) = (k : Int) := by omega
          have hw1 : IntKind.i64.wrap (p : Int) = (p : Int) := IntWalk.i64_in _ (by omega)
          have hw2 : IntKind.i64.wrap (k : Int) = (k : Int) := IntWalk.i64_in _ (by omega)
          have HKE : Hid (k = i * m + j) := by unfold Hid; rw [hk, hp]
          have hk0 : (0 : Int) ≤ (k : Int) := by omega
          have HX := Lib.hid (Nat.lt_of_lt_of_le HIL.out (Nat.le_refl _))
          clear hp hk hpb
          go_wp2_with fail
          go_loopw [6] (fun vo ws => ∃ (n : Nat) (ao : Option Addr) (co : Nat) (o : List Nat), vo = .slice ao n co ∧ n ≤ 1280 ∧ Hid (o.length = n ∧ Jr m F j i o ∧ (∀ x ∈ o, x ≤ 18446744073709551615) ∧ On w ws ∧ Ow w.heap.size ws (.slice ao n co) o)) (fun vo _ => 1281 - sliceN vo)
          case atStart => exact ⟨n2, ao2, co2, o2, rfl, hnb2, HI2.out⟩
          case round =>
            rename World => ws
            obtain ⟨n3, ao3, co3, o3, rfl, hnb3, HI3⟩ := hrel
            by_cases hnk : n3 ≤ k
            · obtain ⟨v', w3, hrun, ho, hg, -⟩ := append_own w.heap.size 0 0 rfl o3 _ ws _ rfl HI3.out.2.2.2.2 HI3.out.2.2.2.1.size (by rw [HI3.out.1]; omega)
              obtain ⟨av2, cv2, rfl⟩ := ho.shape
              have hll : (o3 ++ [0]).length = n3 + 1 := by simp [HI3.out.1]
              rw [hll] at hrun ho
              have HRUN := Lib.hid hrun
              have HI4 : Hid ((o3 ++ [0]).length = n3 + 1 ∧ Jr m F j i (o3 ++ [0]) ∧ (∀ x ∈ o3 ++ [0], x ≤ 18446744073709551615) ∧ On w w3 ∧ Ow w.heap.size w3 (.slice av2 (n3 + 1) cv2) (o3 ++ [0])) :=
                ⟨hll, HI3.out.2.1.pad, fun y hy => by
                  rcases List.mem_append.1 hy with hy | hy
                  · exact HI3.out.2.2.1 y hy
                  · simp at hy; omega, HI3.out.2.2.2.1.grown (Nat.le_refl _) HI3.out.2.2.2.2 hg, ho⟩
              clear hrun ho hg hll
              have hnk2 : n3 + 1 ≤ 1280 := by omega
              go_wp2_with (at_builtin; refine wp_append2 rfl (.tmp 35) (.tmp 36) _ _ rfl _ _ _ rfl rfl HRUN.out ?_)
              go_roundw
              case rel => exact ⟨n3 + 1, av2, cv2, o3 ++ [0], rfl, hnk2, HI4.out⟩
              case measure => simp [sliceN]; omega
            · obtain ⟨g, rfl, hgb, hrow⟩ : ∃ g, ao3 = some ⟨g, 0, none⟩ ∧ w.heap.size ≤ g ∧ Row g co3 ws o3 := by
                rcases HI3.out.2.2.2.2.cases with ⟨e, _⟩ | ⟨g, cap', e, hb, hrow⟩
                · have := HI3.out.1; rw [e] at this; simp at this; omega
                · simp only [Value.slice.injEq] at e; obtain ⟨rfl, _, rfl⟩ := e; exact ⟨g, rfl, hb, hrow⟩
              have hkn : k < n3 := by omega
              have hcg := hrow.blk.cell k (by rw [HI3.out.1]; exact hkn)
              have hfg := hrow.blk.free k
              have hrx := HPR.out ws HI3.out.2.2.2.1
              obtain ⟨-, hcx⟩ := reads_opt hrx
              obtain ⟨bX, oX, hae, hcell⟩ := hcx i (by rw [← HLN.out]; exact HIL.out)
              subst hae
              have hcP2 := HPC.out ws HI3.out.2.2.2.1
              have hxb := hrx.1 _ (getD_mem L i (by rw [← HLN.out]; exact HIL.out))
              have hstp := HI3.out.2.1.step HJM.out (i := i) (by rw [← HKE.out, HI3.out.1]; exact hkn)
              rw [← HKE.out, ← HLE.out] at hstp
              have hrow2 := hrow.set k (L.getD i 0)
              have how := Ow.of_row hrow2 hgb
              have hsl : (o3.set k (L.getD i 0)).length = n3 := by rw [List.length_set]; exact HI3.out.1
              rw [hsl] at how
              have HI4 : Hid ((o3.set k (L.getD i 0)).length = n3 ∧ Jr m F j (i + 1) (o3.set k (L.getD i 0)) ∧ (∀ x ∈ o3.set k (L.getD i 0), x ≤ 18446744073709551615) ∧ On w (ws.setCell ⟨g, k, none⟩ (.int .u64 ((L.getD i 0 : Nat) : Int))) ∧ Ow w.heap.size (ws.setCell ⟨g, k, none⟩ (.int .u64 ((L.getD i 0 : Nat) : Int))) (.slice (some ⟨g, 0, none⟩) n3 co3) (o3.set k (L.getD i 0))) :=
                ⟨hsl, hstp, fun y hy => by
                  rcases List.mem_or_eq_of_mem_set hy with h | h
                  · exact HI3.out.2.2.1 y h
                  · rw [h]; exact hxb, HI3.out.2.2.2.1.setCell hgb _, how⟩
              have HGB := Lib.hid hgb
              clear hrow hrow2 how hsl hstp hcx hrx hgb
              generalize L.getD i 0 = x at *
              have hkn2 : (k : Int) < (n3 : Int) := by omega
              have hnk2 : ¬ ((n3 : Int) ≤ (k : Int)) := by omega
              have hil2 : (i : Int) < (ln : Int) := by have := HIL.out; omega
              go_wp2
              go_roundw
              case rel => exact ⟨i + 1, n3, _, co3, _, by have := HIL.out; omega, by go_num, rfl, hnb3, HI4.out⟩
              case measure => simp [intOf]; have := HIL.out; omega
        · have hie : i = ln := by omega
          have hnx := HI2.out.2.1.next (by rw [← HLE.out, ← HLN.out, hie]; exact Nat.le_refl _)
          have HN : Hid (o2.length = n2 ∧ (j + 1 = 0 → o2 = []) ∧ Jr m F (j + 1) 0 o2 ∧ (∀ x ∈ o2, x ≤ 18446744073709551615) ∧ On w wq ∧ Ow w.heap.size wq (.slice ao2 n2 co2) o2) := ⟨HI2.out.1, fun h => by omega, hnx, HI2.out.2.2⟩
          clear hnx hie
          go_wp2
          go_roundw
          case rel => exact ⟨j + 1, n2, ao2, co2, o2, by have := HJM.out; omega, by go_num, rfl, hnb2, HN.out⟩
          case measure => simp [intOf]; have := HJM.out; omega
    · obtain rfl : j = m := by omega
      have HRW := Lib.hid (HI.out.2.2.2.2.2.reads HI.out.2.2.2.1)
      have HOQ := Lib.hid HI.out.2.2.2.2.1
      have HDN : Hid (Norm (normF f o) ∧ (0 < j → ∀ t, (normF f o).getD t 0 = jR f j F t) ∧ (j = 0 → normF f o = [])) := by
        refine ⟨normF_norm _ _, fun h => HI.out.2.2.1.done f h, fun h => ?_⟩
        rw [HI.out.2.1 h]
        refine norm_ext (normF_norm _ _) (.inl rfl) fun t => ?_
        rw [normF_getD]
        show redF f 0 = 0
        unfold redF; split <;> simp
      have hol : o.length ≤ 100000 := by rw [HI.out.1]; omega
      clear HI
      go_wp2_with fail
      refine (rnorm_big f o _ wr HOQ.out.tab HRW.out hol).mono ?_
      rintro e w6 ⟨⟨u6, rfl, hu6⟩, hO6⟩
      obtain ⟨a6, c6, rfl⟩ := hu6.shape
      have HU6 := Lib.hid (hu6.reads normF_bd)
      have HO6 := Lib.hid (HOQ.out.trans hO6)
      clear hu6 hO6
      generalize normF f o = J at *
      go_wp2
      go_ret
      exact ⟨⟨J, _, _, _, rfl, HU6.out, HDN.out.1, HDN.out.2.1, HDN.out.2.2⟩, HO6.out⟩
end Go.Proofs.YtdhacfagmfecgaaDoor
