/- The document's own answers for polynomials: Mul: what each call returns. -/
import Derived.Test.YtdhacfagmfecgaaDoorPrefO
import Derived.Test.YtdhacfagmfecgaaDoorQtail
import Derived.BigQuiet
namespace Go.Proofs.YtdhacfagmfecgaaDoor
open Go.RowKit
set_option linter.unusedVariables false

def pg (a b : List Nat) (t i : Nat) : Nat := if i ≤ t then a.getD i 0 * b.getD (t - i) 0 else 0
theorem pg_all (a b : List Nat) (t : Nat) : S (pg a b t) a.length = conv a b t := by
  have h1 : S (pg a b t) (max a.length (t + 1)) = S (pg a b t) a.length := S_tail (by omega) fun i hi _ => by
    unfold pg; rw [getD_over hi]; split <;> simp
  have h2 : S (pg a b t) (max a.length (t + 1)) = S (pg a b t) (t + 1) := S_tail (by omega) fun i hi _ => by
    unfold pg; rw [if_neg (by omega)]
  rw [← h1, h2]
  exact S_ext fun i hi => by unfold pg; rw [if_pos (by omega)]
/-- The first i rows of products are summed, and k products of the next one. -/
def Pm (p N : Nat) (a b : List Nat) (i k : Nat) (o : List Nat) : Prop :=
  o.length = N ∧ ∀ t, t < N → o.getD t 0 = (S (pg a b t) i + (if i ≤ t ∧ t < i + k then a.getD i 0 * b.getD (t - i) 0 else 0)) % p
theorem Pm.start (p N : Nat) (a b : List Nat) : Pm p N a b 0 0 (List.replicate N 0) :=
  ⟨by simp, fun t _ => by rw [replicate_getD, if_neg (by omega)]; unfold S; simp⟩
theorem Pm.step {f : Int} {N : Nat} {a b : List Nat} {i k : Nat} {o : List Nat} (hp : 0 < pOf f) (h : Pm (pOf f) N a b i k o) (ht : i + k < N) : Pm (pOf f) N a b i (k + 1) (o.set (i + k) (addF f (o.getD (i + k) 0) (mulF f (a.getD i 0) (b.getD k 0)))) := by
  refine ⟨by rw [List.length_set]; exact h.1, fun t ht2 => ?_⟩
  rw [getD_set1 _ _ _ _ (by rw [h.1]; exact ht)]
  by_cases e : t = i + k
  · subst e
    rw [if_pos rfl, h.2 _ ht, if_neg (by omega), if_pos (by omega), Nat.add_sub_cancel_left, Nat.add_zero, addF_pos _ _ _ hp, mulF_pos _ _ _ hp, ← Nat.add_mod]
  · rw [if_neg e, h.2 t ht2]
    by_cases c : i ≤ t ∧ t < i + k
    · rw [if_pos c, if_pos (by omega)]
    · rw [if_neg c, if_neg (by omega)]
theorem Pm.next {p N : Nat} {a b : List Nat} {i : Nat} {o : List Nat} (h : Pm p N a b i b.length o) : Pm p N a b (i + 1) 0 o := by
  refine ⟨h.1, fun t ht => ?_⟩
  rw [h.2 t ht, if_neg (c := i + 1 ≤ t ∧ t < i + 1 + 0) (by omega), Nat.add_zero]
  show _ = (S (pg a b t) i + pg a b t i) % p
  unfold pg
  by_cases c : i ≤ t
  · rw [if_pos c]
    by_cases c2 : t < i + b.length
    · rw [if_pos ⟨c, c2⟩]
    · rw [if_neg (by omega), getD_over (l := b) (by omega)]; simp
  · rw [if_neg c, if_neg (by omega)]
theorem Pm.done {f : Int} {l m : List Nat} {o : List Nat} (hl : 0 < (normF f l).length) (hm : 0 < (normF f m).length) (h : Pm (pOf f) ((normF f l).length + (normF f m).length - 1) (normF f l) (normF f m) (normF f l).length 0 o) : o = mulL f l m := by
  unfold mulL
  rw [if_neg (by omega)]
  refine list_ext (by rw [h.1]; simp) fun t ht => ?_
  rw [h.1] at ht
  rw [h.2 t ht, if_neg (by omega), Nat.add_zero, pg_all, getD_range, if_pos ht]

set_option maxHeartbeats 2000000 in
theorem rmulp_any (f : Int) (l m : List Nat) (v v' : Value) (w : World) (hT : Tab w) (hv : validB f = true) (hR : Reads w v l) (hR' : Reads w v' m) (hl : l.length ≤ 1000) (hm : m.length ≤ 1000) :
    Calls Tryd.prog 22 #[.int .i64 f, v, v'] w fun e w' => (∃ u, e = .returned (.tuple #[u, .int .i64 0]) ∧ Fre w.heap.size w' u (mulL f l m)) ∧ On w w' := by
  have hp := (valid_iff f).1 hv
  have HV := Lib.hid hv; clear hv
  have HR' := Lib.hid hR'
  have H0 := Lib.hid (On.refl hT)
  have HN1 := Lib.hid (rnorm_any f l v w hT hR hl)
  clear hR hR'
  have hAl := normF_len f l
  have hBl := normF_len f m
  have HZ : Hid ((normF f l).length = 0 ∨ (normF f m).length = 0 → mulL f l m = []) := fun h => by unfold mulL; rw [if_pos h]
  have HDN : Hid (∀ o, 0 < (normF f l).length → 0 < (normF f m).length → Pm (pOf f) ((normF f l).length + (normF f m).length - 1) (normF f l) (normF f m) (normF f l).length 0 o → o = mulL f l m) := fun o h1 h2 h => Pm.done h1 h2 h
  have HNM : Hid (∀ w', On w w' → _) := fun w' hw => rnorm_any f m v' w' hw.tab (HR'.out.on hw) hm
  have HUA : Hid (∀ x ∈ normF f l, x ≤ 998244353) := normF_le f l
  have HUB : Hid (∀ x ∈ normF f m, x ≤ 998244353) := normF_le f m
  generalize normF f l = A at *
  generalize normF f m = B at *
  go_enter Tryd.func22, Tryd.ntmps22
  go_wp2_with (go_at_call 34; refine (rvalid_any _ _).mono ?_; rintro e w' ⟨rfl, rfl⟩; rw [HV.out])
  refine HN1.out.mono ?_
  rintro e w1 ⟨⟨u1, rfl, hu1⟩, hO1⟩
  have HO := Lib.hid hO1; have HA := Lib.hid hu1
  clear hO1 hu1 HN1
  go_wp2_with fail
  refine (HNM.out w1 HO.out).mono ?_
  rintro e w2 ⟨⟨u2, rfl, hu2⟩, hO1⟩
  have HA := Lib.hid (HA.out.on hO1)
  have HB := Lib.hid (hu2.mono (C := w.heap.size) HO.out.size)
  have HO := Lib.hid (HO.out.trans hO1)
  clear hO1 hu2 HNM
  obtain ⟨a1, c1, rfl⟩ := HA.out.shape
  obtain ⟨a2, c2, rfl⟩ := HB.out.shape
  have HRA := Lib.hid (HA.out.reads fun x hx => by have := HUA.out x hx; omega)
  have HRB := Lib.hid (HB.out.reads fun x hx => by have := HUB.out x hx; omega)
  obtain ⟨na, hna⟩ : ∃ na, A.length = na := ⟨_, rfl⟩
  obtain ⟨nb, hnb⟩ : ∃ nb, B.length = nb := ⟨_, rfl⟩
  rw [hna] at HZ HDN HRA hAl ⊢
  rw [hnb] at HZ HDN HRB hBl ⊢
  have HNA := Lib.hid hna; have HNB := Lib.hid hnb
  clear hna hnb HA HB
  by_cases h1 : na = 0
  · have HM := Lib.hid (HZ.out (.inl h1))
    subst h1
    go_wp2
    go_ret2
    exact ⟨⟨_, rfl, by rw [HM.out]; exact Fre.nil _ _⟩, HO.out⟩
  · have h1b : (((na : Nat) : Int) == 0) = false := by simp only [beq_eq_false_iff_ne, ne_eq]; omega
    by_cases h2 : nb = 0
    · have HM := Lib.hid (HZ.out (.inr h2))
      subst h2
      go_wp2
      go_ret2
      exact ⟨⟨_, rfl, by rw [HM.out]; exact Fre.nil _ _⟩, HO.out⟩
    · have h2b : (((nb : Nat) : Int) == 0) = false := by simp only [beq_eq_false_iff_ne, ne_eq]; omega
      obtain ⟨N, hN⟩ : ∃ N, N = na + nb - 1 := ⟨_, rfl⟩
      have hsum : ((na : Int) + (nb : Int)) - 1 = (N : Int) := by omega
      have hlim : ¬ (32768 < (N : Int)) := by omega
      have hNb : N ≤ 2000 := by omega
      rw [← hN] at HDN
      have hNN : ∀ i k, i < na → k < nb → i + k < N := fun i k hi hk => by omega
      have HNN := Lib.hid hNN; have HN := Lib.hid hN
      clear hN hNN
      have hmk := make_run N (by omega) w2
      have HBK := Lib.hid (blk_made w2 N)
      have HOn := Lib.hid ((On.refl HO.out.tab).alloc (.cells (madeCells #[.int .u64 0] N) 23))
      obtain ⟨w0, hw0⟩ : ∃ w0, w0 = w2.alloc (.cells (madeCells #[.int .u64 0] N) 23) := ⟨_, rfl⟩
      rw [← hw0] at hmk HBK HOn
      have HW0 := Lib.hid hw0; clear hw0
      obtain ⟨C, hCe⟩ : ∃ C, C = w2.heap.size := ⟨_, rfl⟩
      rw [← hCe] at hmk HBK
      have HCE := Lib.hid hCe; clear hCe
      have HST := Lib.hid (Pm.start (pOf f) N A B)
      go_wp2_with fail
      go_loopw [9] (fun vi wr => ∃ (i : Nat) (o : List Nat), i ≤ na ∧ vi = .int .i64 (i : Int) ∧ Hid (Pm (pOf f) N A B i 0 o ∧ Blk C wr o ∧ On w2 wr)) (fun vi _ => na - (intOf vi).toNat)
      case atStart => exact ⟨0, _, Nat.zero_le _, rfl, HST.out, HBK.out, HOn.out⟩
      case round =>
        rename World => wr
        obtain ⟨i, o, hi, rfl, HI⟩ := hrel
        by_cases hia : i < na
        · go_wp2_with fail
          go_loopw [10] (fun vk wq => ∃ (k : Nat) (o : List Nat), k ≤ nb ∧ vk = .int .i64 (k : Int) ∧ Hid (Pm (pOf f) N A B i k o ∧ Blk C wq o ∧ On w2 wq)) (fun vk _ => nb - (intOf vk).toNat)
          case atStart => exact ⟨0, o, Nat.zero_le _, rfl, HI⟩
          case round =>
            rename World => wq
            obtain ⟨k, o2, hk, rfl, HI2⟩ := hrel
            by_cases hkb : k < nb
            · have hikN := HNN.out i k hia hkb
              obtain ⟨-, hcA⟩ := reads_opt (HRA.out.on HI2.out.2.2)
              obtain ⟨bA, oA, rfl, hcellA⟩ := hcA i (by rw [HNA.out]; exact hia)
              obtain ⟨-, hcB⟩ := reads_opt (HRB.out.on HI2.out.2.2)
              obtain ⟨bB, oB, rfl, hcellB⟩ := hcB k (by rw [HNB.out]; exact hkb)
              have hxa := HUA.out _ (getD_mem A i (by rw [HNA.out]; exact hia))
              have hxb := HUB.out _ (getD_mem B k (by rw [HNB.out]; exact hkb))
              have hcC := HI2.out.2.1.cell (i + k) (by rw [HI2.out.1.1]; exact hikN)
              have hfC := HI2.out.2.1.free (i + k)
              have hyb : o2.getD (i + k) 0 ≤ 998244353 := by
                rw [HI2.out.1.2 _ hikN]
                have := Nat.mod_lt (S (pg A B (i + k)) i + (if i ≤ i + k ∧ i + k < i + k then A.getD i 0 * B.getD (i + k - i) 0 else 0)) hp
                have := pOf_le f; omega
              have HJ := Lib.hid (HI2.out.1.step hp hikN)
              have HB2 : Hid (∀ z n, Blk C ((wq.drewN n).setCell ⟨C, i + k, none⟩ (.int .u64 ((z : Nat) : Int))) (o2.set (i + k) z)) := fun z n => (HI2.out.2.1.drewN n).set _ z (by rw [HI2.out.1.1]; exact hikN)
              have HO4 : Hid (∀ u n, On w2 ((wq.drewN n).setCell ⟨C, i + k, none⟩ u)) := fun u n => (HI2.out.2.2.drewN n).setCell (by rw [HCE.out]; exact Nat.le_refl _) _
              have hadd : (i : Int) + (k : Int) = ((i + k : Nat) : Int) := (Int.natCast_add i k).symm
              clear hcA hcB
              generalize A.getD i 0 = x at *
              generalize B.getD k 0 = z at *
              generalize o2.getD (i + k) 0 = y at *
              generalize i + k = t at *
              have hmu := mulF_le f x z
              have hwt : IntKind.i64.wrap (t : Int) = (t : Int) := IntWalk.i64_in _ (by omega)
              have hwt2 : IntKind.i64.wrap ((i : Int) + (k : Int)) = (t : Int) := by rw [hadd]; exact hwt
              have htN : (t : Int) < (N : Int) := by omega
              have ht0 : (0 : Int) ≤ (t : Int) := by omega
              have hiA : (i : Int) < (na : Int) := by omega
              have hkB : (k : Int) < (nb : Int) := by omega
              go_wp2_with fail
              refine region_quiet_tail 22 (by kernel_rfl) (by kernel_rfl) ?_
              simp only [List.take_succ_cons, List.take_zero, List.drop_succ_cons, List.drop_zero]
              repeat (quiet_step ((first | (go_at_call 43; exact quiet_of_drawn (rmul_any f x z _ (by omega) (by omega))) | (go_at_call 38; exact quiet_of_drawn (radd_any f y (mulF f x z) _ (by omega) (by omega))))))
              refine wpQuiet_nil ?_
              intro _ hw'
              obtain ⟨nq, hw''⟩ := hw'
              subst hw''
              have hco2 : (wq.drewN nq).cell? ⟨C, t, none⟩ = _ := hcC
              have hfr2 : (wq.drewN nq).frozen? ⟨C, t, none⟩ = false := hfC
              go_wp2
              go_roundw
              case rel => exact ⟨k + 1, _, by omega, by go_num, HJ.out, HB2.out _ _, HO4.out _ _⟩
              case measure => simp [intOf]; omega
            · obtain rfl : k = nb := by omega
              have HI3 : Hid (Pm (pOf f) N A B (i + 1) 0 o2 ∧ Blk C wq o2 ∧ On w2 wq) := by
                have h := HI2.out
                rw [← HNB.out] at h
                exact ⟨h.1.next, h.2⟩
              go_wp2
              go_roundw
              case rel => exact ⟨i + 1, o2, by omega, by go_num, HI3⟩
              case measure => simp [intOf]; omega
        · obtain rfl : i = na := by omega
          have HE := Lib.hid (HDN.out o (by omega) (by omega) HI.out.1)
          have HLE : Hid (o.length = N) := HI.out.1.1
          have HBO := Lib.hid HI.out.2.1
          have HOF := Lib.hid (HO.out.trans HI.out.2.2)
          have HSZ : Hid (w.heap.size ≤ C) := by unfold Hid; rw [HCE.out]; exact HO.out.size
          clear HI
          go_wp2
          go_ret2
          exact ⟨⟨.slice (some ⟨C, 0, none⟩) N N, rfl, .inr ⟨C, by rw [← HE.out, HLE.out], HSZ.out, by rw [← HE.out]; exact HBO.out⟩⟩, HOF.out⟩
end Go.Proofs.YtdhacfagmfecgaaDoor
