/- Package poly: Join: what each call returns. -/
import Derived.Test.YtdhacfagmfecgaaDoorPsplit
namespace Go.Proofs.YtdhacfagmfecgaaDoor
open Go.RowKit
set_option linter.unusedVariables false

def dg (f : Int) (L : Nat → List Nat) (j : Nat) : Nat := (normF f (L j)).length
def joinN (f : Int) (m : Nat) (L : Nat → List Nat) : Nat → Nat
  | 0 => 0
  | k + 1 => max (joinN f m L k) (if dg f L k = 0 then 0 else (dg f L k - 1) * m + k + 1)
theorem joinN_ge (f : Int) (m : Nat) (L : Nat → List Nat) (j i : Nat) (hi : i < dg f L j) : ∀ k, j < k → i * m + j < joinN f m L k := by
  intro k
  induction k with
  | zero => intro h; omega
  | succ k ih =>
    intro h
    unfold joinN
    by_cases e : j = k
    · subst e
      rw [if_neg (by omega)]
      have : i * m ≤ (dg f L j - 1) * m := Nat.mul_le_mul_right _ (by omega)
      omega
    · have := ih (by omega); omega
theorem joinN_le (f : Int) (m D : Nat) (L : Nat → List Nat) (hD : ∀ j, j < m → dg f L j ≤ D) : ∀ k, k ≤ m → joinN f m L k ≤ D * m := by
  intro k
  induction k with
  | zero => intro _; unfold joinN; omega
  | succ k ih =>
    intro h
    unfold joinN
    have h1 := ih (by omega)
    have h2 := hD k (by omega)
    split
    · omega
    · have h3 : (dg f L k - 1) * m + m = dg f L k * m := by
        rw [← Nat.succ_mul]; congr 1; omega
      have h4 : dg f L k * m ≤ D * m := Nat.mul_le_mul_right _ h2
      omega
/-- What stands at place t. -/
def jR (f : Int) (m : Nat) (L : Nat → List Nat) (t : Nat) : Nat := redF f ((L (t % m)).getD (t / m) 0)
theorem jR_zero (f : Int) (m : Nat) (L : Nat → List Nat) (t : Nat) (h : dg f L (t % m) ≤ t / m) : jR f m L t = 0 := by
  unfold jR
  rw [← normF_getD, getD_over h]
theorem jR_at (f : Int) (m : Nat) (L : Nat → List Nat) (i j : Nat) (hj : j < m) : jR f m L (i * m + j) = redF f ((L j).getD i 0) := by
  unfold jR
  rw [Nat.mul_comm i m, Nat.mul_add_mod, Nat.mod_eq_of_lt hj, Nat.mul_add_div (by omega), Nat.div_eq_of_lt hj, Nat.add_zero]
theorem jR_big (f : Int) (m : Nat) (L : Nat → List Nat) (t : Nat) (hm : 0 < m) (h : joinN f m L m ≤ t) : jR f m L t = 0 := by
  refine jR_zero f m L t (Nat.le_of_not_lt fun hlt => ?_)
  have := joinN_ge f m L (t % m) (t / m) hlt m (Nat.mod_lt _ hm)
  have e := Nat.div_add_mod t m
  rw [Nat.mul_comm] at e
  omega
/-- The places of the first j lists, and i places of list j, are written. -/
def Jn (f : Int) (m n : Nat) (L : Nat → List Nat) (j i : Nat) (o : List Nat) : Prop :=
  o.length = n ∧ ∀ t, t < n → o.getD t 0 = if t % m < j ∨ (t % m = j ∧ t / m < i) then jR f m L t else 0
theorem Jn.start (f : Int) (m n : Nat) (L : Nat → List Nat) : Jn f m n L 0 0 (List.replicate n 0) :=
  ⟨by simp, fun t _ => by rw [replicate_getD, if_neg (by rintro (h | ⟨_, h⟩) <;> exact absurd h (Nat.not_lt_zero _))]⟩
theorem Jn.step {f : Int} {m n : Nat} {L : Nat → List Nat} {j i : Nat} {o : List Nat} (h : Jn f m n L j i o) (hj : j < m) (hn : i * m + j < n) : Jn f m n L j (i + 1) (o.set (i * m + j) (redF f ((L j).getD i 0))) := by
  refine ⟨by rw [List.length_set]; exact h.1, fun t ht => ?_⟩
  have e1 : (i * m + j) % m = j := by rw [Nat.mul_comm, Nat.mul_add_mod, Nat.mod_eq_of_lt hj]
  have e2 : (i * m + j) / m = i := by rw [Nat.mul_comm, Nat.mul_add_div (by omega), Nat.div_eq_of_lt hj, Nat.add_zero]
  rw [getD_set1 _ _ _ _ (by rw [h.1]; exact hn)]
  by_cases e : t = i * m + j
  · subst e
    rw [if_pos rfl, if_pos (.inr ⟨e1, by omega⟩), jR_at f m L i j hj]
  · rw [if_neg e, h.2 t ht]
    have hne : ¬ (t % m = j ∧ t / m = i) := fun ⟨h1, h2⟩ => e (by
      have := Nat.div_add_mod t m
      rw [h1, h2, Nat.mul_comm] at this; exact this.symm)
    by_cases c : t % m < j ∨ (t % m = j ∧ t / m < i)
    · rw [if_pos c, if_pos (by omega)]
    · rw [if_neg c, if_neg (by omega)]
theorem Jn.next {f : Int} {m n : Nat} {L : Nat → List Nat} {j : Nat} {o : List Nat} (h : Jn f m n L j (dg f L j) o) : Jn f m n L (j + 1) 0 o := by
  refine ⟨h.1, fun t ht => ?_⟩
  rw [h.2 t ht]
  by_cases c : t % m < j ∨ (t % m = j ∧ t / m < dg f L j)
  · rw [if_pos c, if_pos (by omega)]
  · rw [if_neg c]
    by_cases c2 : t % m = j
    · rw [if_pos (by omega), jR_zero f m L t (by rw [c2]; omega)]
    · rw [if_neg (by
        rintro (h | ⟨_, h⟩)
        · exact c (.inl (by omega))
        · exact absurd h (Nat.not_lt_zero _))]
theorem Jn.done {f : Int} {m : Nat} {L : Nat → List Nat} {o : List Nat} (hm : 0 < m) (h : Jn f m (joinN f m L m) L m 0 o) (t : Nat) : (strip o).getD t 0 = jR f m L t := by
  rw [strip_getD]
  rcases Nat.lt_or_ge t (joinN f m L m) with h1 | h1
  · rw [h.2 t h1, if_pos (.inl (Nat.mod_lt _ hm))]
  · rw [getD_over (by rw [h.1]; exact h1), jR_big f m L t hm h1]
theorem Jn.at {f : Int} {m n : Nat} {L : Nat → List Nat} {j i : Nat} {o : List Nat} (h : Jn f m n L j i o) (hj : j < m) (hn : i * m + j < n) : o.getD (i * m + j) 0 = 0 := by
  have e1 : (i * m + j) % m = j := by rw [Nat.mul_comm, Nat.mul_add_mod, Nat.mod_eq_of_lt hj]
  have e2 : (i * m + j) / m = i := by rw [Nat.mul_comm, Nat.mul_add_div (by omega), Nat.div_eq_of_lt hj, Nat.add_zero]
  rw [h.2 _ hn, if_neg (by omega)]

set_option maxHeartbeats 2000000 in
theorem join_any (f : Int) (b o m cap : Nat) (V : Nat → Value) (L : Nat → List Nat) (w : World) (hT : Tab w) (hm1 : 1 ≤ m) (hm64 : m ≤ 64)
    (hc : ∀ j, j < m → w.cell? ⟨b, o + j, none⟩ = some (V j)) (hR : ∀ j, j < m → Reads w (V j) (L j)) (hL : ∀ j, j < m → (L j).length ≤ 100000) :
    Calls Tryd.prog 29 #[.int .i64 f, .slice (some ⟨b, o, none⟩) m cap] w fun e w' =>
      (∃ v J, e = .returned v ∧ Norm J ∧ (∀ t, J.getD t 0 = jR f m L t) ∧ J.length ≤ 6400000 ∧ (∀ y ∈ J, y ≤ 18446744073709551615) ∧ Fre w.heap.size w' v J) ∧ On w w' := by
  have HC := Lib.hid hc; have HR := Lib.hid hR; have HL := Lib.hid hL
  clear hc hR hL
  have hm2' : ¬ (64 < (m : Int)) := by omega
  have HDG : Hid (∀ j, j < m → dg f L j ≤ 100000) := fun j hj => by have := normF_len f (L j); have := HL.out j hj; unfold dg; omega
  have HT := Lib.hid hT
  go_enter Tryd.func29, Tryd.ntmps29
  go_wp2_with fail
  go_loop [6, 19] (fun vn vj => ∃ j : Nat, j ≤ m ∧ vj = .int .i64 (j : Int) ∧ vn = .int .i64 ((joinN f m L j : Nat) : Int)) (fun _ vj => m - (intOf vj).toNat)
  case atStart => exact ⟨0, Nat.zero_le _, rfl, rfl⟩
  case round =>
    obtain ⟨j, hj, rfl, rfl⟩ := hrel
    have hnb : joinN f m L j ≤ 100000 * m := joinN_le f m 100000 L HDG.out j hj
    by_cases hjm : j < m
    · have hcell := HC.out j hjm
      have hrd := HR.out j hjm
      obtain ⟨aj, cj, hVj⟩ := hrd.shape
      rw [hVj] at hcell
      have HDEG := degree_any f (L j) _ w hT hrd
      rw [hVj] at HDEG
      have HDEG := Lib.hid HDEG
      have hdb := HDG.out j hjm
      have hsucc : joinN f m L (j + 1) = max (joinN f m L j) (if dg f L j = 0 then 0 else (dg f L j - 1) * m + j + 1) := rfl
      have hdgd : (normF f (L j)).length = dg f L j := rfl
      rw [hdgd] at HDEG
      have HVJ := Lib.hid hVj
      clear hrd hVj hdgd
      generalize dg f L j = d at *
      generalize (L j).length = lj at *
      generalize joinN f m L j = nj at *
      by_cases hd : d = 0
      · rw [if_pos hd] at hsucc
        have hsub : ((d : Nat) : Int) - 1 = -1 := by omega
        rw [hsub] at HDEG
        have hw2 : IntKind.i64.wrap (-1 * (m : Int)) = -(m : Int) := by rw [Int.neg_one_mul]; exact IntWalk.i64_in _ (by omega)
        have hmx : joinN f m L (j + 1) = nj := by rw [hsucc]; omega
        have HMX := Lib.hid hmx
        have hle : ¬ ((nj : Int) < -(m : Int) + (j : Int) + 1) := by omega
        have hle2 : (-(m : Int) + (j : Int) + 1) ≤ (nj : Int) := by omega
        clear hsucc hmx hd hsub
        go_wp2_with (go_at_call 9; refine HDEG.out.mono ?_; rintro e w' ⟨rfl, rfl⟩)
        go_round
        case rel => exact ⟨j + 1, by omega, by go_num, by rw [HMX.out]⟩
        case measure => simp [intOf]; omega
      · rw [if_neg hd] at hsucc
        obtain ⟨d1, hd1⟩ : ∃ d1, d1 = d - 1 := ⟨_, rfl⟩
        have hsub : ((d : Nat) : Int) - 1 = (d1 : Int) := by omega
        rw [hsub] at HDEG
        rw [← hd1] at hsucc
        have hq : d1 * m ≤ 100000 * 64 := Nat.mul_le_mul (by omega) hm64
        obtain ⟨q, hqe⟩ : ∃ q, q = d1 * m := ⟨_, rfl⟩
        rw [← hqe] at hsucc hq
        have hmul : (d1 : Int) * (m : Int) = (q : Int) := by rw [hqe]; exact (Int.natCast_mul d1 m).symm
        have HQE := Lib.hid hqe; have HD1 := Lib.hid hd1
        clear hd1 hsub hqe
        by_cases hcm : nj < q + j + 1
        · have HMX : Hid (joinN f m L (j + 1) = q + j + 1) := by unfold Hid; rw [hsucc]; omega
          have hle : ((nj : Int) < (q : Int) + (j : Int) + 1) := by omega
          clear hsucc
          go_wp2_with (go_at_call 9; refine HDEG.out.mono ?_; rintro e w' ⟨rfl, rfl⟩)
          go_round
          case rel => exact ⟨j + 1, by omega, by go_num, by rw [HMX.out]; go_num⟩
          case measure => simp [intOf]; omega
        · have HMX : Hid (joinN f m L (j + 1) = nj) := by unfold Hid; rw [hsucc]; omega
          have hle : ¬ ((nj : Int) < (q : Int) + (j : Int) + 1) := by omega
          clear hsucc
          go_wp2_with (go_at_call 9; refine HDEG.out.mono ?_; rintro e w' ⟨rfl, rfl⟩)
          go_round
          case rel => exact ⟨j + 1, by omega, by go_num, by rw [HMX.out]⟩
          case measure => simp [intOf]; omega
    · obtain rfl : j = m := by omega
      have hnb2 : joinN f j L j ≤ 6400000 := by omega
      have HGE := Lib.hid (joinN_ge f j L)
      have HDONE : Hid (∀ o, Jn f j (joinN f j L j) L j 0 o → ∀ t, (strip o).getD t 0 = jR f j L t) := fun o h t => h.done (by omega) t
      generalize hn : joinN f j L j = n at *
      have HN := Lib.hid hn; clear hn
      have hmk := make_run n (by omega) w
      have HBK := Lib.hid (blk_made w n)
      have HOn := Lib.hid ((On.refl HT.out).alloc (.cells (madeCells #[.int .u64 0] n) 23))
      have HST := Lib.hid (Jn.start f j n L)
      obtain ⟨w0, hw0⟩ : ∃ w0, w0 = w.alloc (.cells (madeCells #[.int .u64 0] n) 23) := ⟨_, rfl⟩
      rw [← hw0] at hmk HBK HOn
      have HW0 := Lib.hid hw0; clear hw0
      obtain ⟨B, hBe⟩ : ∃ B, B = w.heap.size := ⟨_, rfl⟩
      rw [← hBe] at hmk HBK
      have HBE := Lib.hid hBe; clear hBe
      go_wp2_with fail
      go_loopw [39] (fun vj wr => ∃ (k : Nat) (os : List Nat), k ≤ j ∧ vj = .int .i64 (k : Int) ∧ Hid (Jn f j n L k 0 os ∧ Blk B wr os ∧ On w wr)) (fun vj _ => j - (intOf vj).toNat)
      case atStart => exact ⟨0, _, Nat.zero_le _, rfl, HST.out, HBK.out, HOn.out⟩
      case round =>
        rename World => wr
        obtain ⟨k, os, hk, rfl, HI⟩ := hrel
        by_cases hkm : k < j
        · have hcell := HC.out k hkm
          rw [← HI.out.2.2.cell (p := ⟨b, o + k, none⟩) (cell_size hcell)] at hcell
          have hrd := (HR.out k hkm).on HI.out.2.2
          obtain ⟨aj, cj, hVj⟩ := hrd.shape
          rw [hVj] at hcell hrd
          have HLEN := Lib.hid (length_any f (L k) _ wr HI.out.2.2.tab hrd)
          have HRD := Lib.hid hrd; have HVJ := Lib.hid hVj
          have hdk : dg f L k ≤ 100000 := HDG.out k hkm
          have HLK := Lib.hid (normF_len f (L k))
          have HLL := Lib.hid (HL.out k hkm)
          have HD : Hid ((normF f (L k)).length = dg f L k) := rfl
          clear hrd hVj
          rw [HD.out] at HLEN HLK
          have HDD : Hid (∀ i, i < dg f L k → i * j + k < n) := fun i hi => by have := HGE.out k i hi j hkm; rwa [HN.out] at this
          have HNX : Hid (∀ os, Jn f j n L k (dg f L k) os → Jn f j n L (k + 1) 0 os) := fun os h => h.next
          clear HD
          generalize dg f L k = d at *
          go_wp2_with fail
          refine HLEN.out.mono ?_
          rintro e w' ⟨rfl, rfl⟩
          go_wp2_with fail
          go_loopw [47] (fun vi wq => ∃ (i : Nat) (os : List Nat), i ≤ d ∧ vi = .int .i64 (i : Int) ∧ Hid (Jn f j n L k i os ∧ Blk B wq os ∧ On w wq)) (fun vi _ => d - (intOf vi).toNat)
          case atStart => exact ⟨0, os, Nat.zero_le _, rfl, HI⟩
          case round =>
            rename World => wq
            obtain ⟨i, os2, hi, rfl, HI2⟩ := hrel
            by_cases hid2 : i < d
            · have hin := HDD.out i hid2
              have hrd2 := (HR.out k hkm).on HI2.out.2.2
              rw [HVJ.out] at hrd2
              obtain ⟨-, hcx⟩ := reads_opt hrd2
              have hil : i < (L k).length := by have := HLK.out; omega
              obtain ⟨bX, oX, rfl, hcellX⟩ := hcx i hil
              have hxb := hrd2.1 _ (getD_mem (L k) i hil)
              have HJ := Lib.hid (HI2.out.1.step hkm hin)
              have hat := HI2.out.1.at hkm hin
              have hcB := HI2.out.2.1.cell (i * j + k) (by rw [HI2.out.1.1]; exact hin)
              have hfB := HI2.out.2.1.free (i * j + k)
              rw [hat] at hcB
              have HB2 := Lib.hid (HI2.out.2.1.set (i * j + k) (redF f ((L k).getD i 0)) (by rw [HI2.out.1.1]; exact hin))
              have HO2 := Lib.hid (HI2.out.2.2.setCell (p := ⟨B, i * j + k, none⟩) (by rw [HBE.out]; exact Nat.le_refl _) (.int .u64 ((redF f ((L k).getD i 0) : Nat) : Int)))
              have HTq := Lib.hid HI2.out.2.2.tab
              have hllb := HLL.out
              have hmul : (i : Int) * (j : Int) = ((i * j : Nat) : Int) := (Int.natCast_mul i j).symm
              clear hcx hrd2 hat
              generalize (L k).getD i 0 = x at *
              generalize (L k).length = lk at *
              generalize i * j = q at *
              have hqb : q ≤ 6400000 := by omega
              go_wp2_with (go_at_call 32; refine (reduce_any f x _ HTq.out hxb).mono ?_; rintro e w' ⟨rfl, rfl⟩)
              go_roundw
              case rel => exact ⟨i + 1, _, by omega, by go_num, HJ.out, HB2.out, HO2.out⟩
              case measure => simp [intOf]; omega
            · obtain rfl : i = d := by omega
              have HI3 : Hid (Jn f j n L (k + 1) 0 os2 ∧ Blk B wq os2 ∧ On w wq) := ⟨HNX.out _ HI2.out.1, HI2.out.2⟩
              go_wp2
              go_roundw
              case rel => exact ⟨k + 1, os2, by omega, by go_num, HI3⟩
              case measure => simp [intOf]; omega
        · obtain rfl : k = j := by omega
          have hTRM := trim_blk w.heap.size B os n wr (by rw [HI.out.1.1]; exact Nat.le_refl _) (by omega) HI.out.2.1 (by rw [HBE.out]; exact Nat.le_refl _)
          rw [HI.out.1.1] at hTRM
          have HTRM := Lib.hid hTRM
          have HFIN := Lib.hid (HDONE.out os HI.out.1)
          have HLN : Hid ((strip os).length ≤ n) := by have := strip_len os; rw [HI.out.1.1] at this; exact this
          have HOw := Lib.hid HI.out.2.2
          clear hTRM HI
          go_wp2_with (go_at_call 33; refine HTRM.out.mono ?_; rintro e w' ⟨⟨v', rfl, hF⟩, rfl⟩)
          go_ret
          exact ⟨⟨_, strip os, rfl, norm_strip _, HFIN.out, by have := HLN.out; omega, fun y hy => by
            obtain ⟨t, ht, e⟩ := List.mem_iff_getElem.1 hy
            have h1 := HFIN.out t
            rw [List.getD_eq_getElem?_getD, List.getElem?_eq_getElem ht] at h1
            have h2 := redF_le f ((L (t % k)).getD (t / k) 0)
            have h3 : y = redF f ((L (t % k)).getD (t / k) 0) := by rw [← e]; exact h1
            omega, hF⟩, HOw.out⟩
end Go.Proofs.YtdhacfagmfecgaaDoor
