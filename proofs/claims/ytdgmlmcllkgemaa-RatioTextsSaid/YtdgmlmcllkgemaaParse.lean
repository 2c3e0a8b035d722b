/- Parse of package ratio. -/
import Derived.Test.YtdgmlmcllkgemaaRord
import Derived.Test.YtdgmlmcllkgemaaIst
namespace Go.Proofs.Ytdgmlmcllkgemaa
open Go.RowKit
set_option linter.unusedVariables false

theorem nl_small {n : Nat} (h0 : 0 < n) (h : n < 4294967296) : nl n = 1 := nl_eq (k := 0) (by simp; omega) (by simp; omega)
/-- A new list of one limb. -/
theorem one_nv (w : World) (B n : Nat) (hB : B = w.heap.size) (h0 : 0 < n) (h : n < 4294967296) : Nv (w.alloc (.cells #[.int .u32 (n : Int)] 54)) (.slice (some ⟨B, 0, none⟩) 1 1) n := by
  subst hB
  refine ⟨_, 1, by rw [nl_small h0 h], by rw [nl_small h0 h]; omega, by omega, fun k hk => ⟨_, _, rfl, ?_⟩⟩
  rw [nl_small h0 h] at hk
  obtain rfl : k = 0 := by omega
  have hd : dg (n : Int) 0 = n := by rw [dg_nat]; simp; omega
  rw [hd, Nat.zero_add, World.cell?_alloc_new]; rfl
theorem ten_nv (w : World) (B : Nat) (hB : B = w.heap.size) : Nv (w.alloc (.cells #[.int .u32 10] 54)) (.slice (some ⟨B, 0, none⟩) 1 1) 10 := one_nv w B 10 hB (by decide) (by decide)
theorem limC_gt {a b : Nat} (h : a ≤ b) (ha : 64 < nl a) : limC b = limC a ∧ limN b = limN a := by
  have := nl_mono h
  unfold limC limN
  rw [if_neg (by omega), if_neg (by omega), if_neg (by omega), if_neg (by omega)]; exact ⟨rfl, rfl⟩

theorem Parse_bad (l : List UInt8) (w : World) (hl : l.length ≤ 9223372036854775807) (ht : textB l = false) :
    Calls Try.prog 28 #[str l] w fun e w' => ∃ v, e = .returned (.tuple #[v, .int .i64 4]) ∧ Nv w' v 0 ∧ On w w' := by
  have HN := Lib.hid (Nv.nil w)
  have HT := Lib.hid ht; clear ht
  have H := Lib.hid (isText_any l w hl)
  unfold str at *
  go_enter Try.func28, Try.ntmps28
  go_wp2_with (go_at_call 70; refine H.out.mono ?_; rw [HT.out]; rintro e w' ⟨rfl, rfl⟩)
  first | go_ret | go_returns | go_ret2
  exact ⟨_, rfl, HN.out, On.refl _⟩
set_option maxHeartbeats 2000000 in
theorem Parse_yes (l : List UInt8) (w : World) (hl : l.length ≤ 9223372036854775807) (ht : textB l = true) :
    Calls Try.prog 28 #[str l] w fun e w' => ∃ v, e = .returned (.tuple #[v, .int .i64 (limC (numOf l))]) ∧ Nv w' v (limN (numOf l)) ∧ On w w' := by
  have hs : (⟨l.toArray⟩ : ByteArray).size = l.length := rfl
  have HD : Hid (∀ k (h : k < l.length), 48 ≤ l[k].toNat ∧ l[k].toNat ≤ 57) := by
    intro k h
    unfold textB at ht
    rw [Bool.and_eq_true, List.all_eq_true] at ht
    have := ht.1 l[k] (List.getElem_mem h)
    unfold digitB at this
    simpa using this
  have HT := Lib.hid ht; clear ht
  have H := Lib.hid (isText_any l w hl)
  have hz := nl_zero
  have HN := Lib.hid (Nv.nil w)
  unfold str at *
  go_enter Try.func28, Try.ntmps28
  go_hidden (go_wp2_with (go_at_call 70; refine H.out.mono ?_; rw [HT.out]; rintro e w' ⟨rfl, rfl⟩))
  clear hz
  go_loopw [4, 5] (fun v4 vi wr => ∃ k A : Nat, vi = .int .i64 k ∧ k ≤ l.length ∧ nl A ≤ 65 ∧ Hid (A = numOf (l.take k)) ∧ Hid (Nv wr v4 A ∧ On w wr)) (fun _ vi _ => l.length - (intOf vi).toNat)
  case atStart => exact ⟨0, 0, rfl, Nat.zero_le _, by rw [nl_zero]; omega, rfl, HN.out, On.refl _⟩
  case round =>
    obtain ⟨k, A, rfl, hk, hA, HA, HW⟩ := hrel
    obtain ⟨oa, ca, rfl, -, -, -⟩ := HW.out.1
    by_cases hgo : k < l.length ∧ nl A ≤ 64
    · obtain ⟨hlt, hA4⟩ := hgo
      obtain ⟨c, hc⟩ : ∃ c : Nat, (⟨l.toArray⟩ : ByteArray)[k].toNat = c := ⟨_, rfl⟩
      have HC : Hid (l[k].toNat = c) := hc
      obtain ⟨hc1, hc2⟩ := HD.out k hlt
      rw [HC.out] at hc1 hc2
      obtain ⟨d, hd⟩ : ∃ d : Nat, (c : Int) - 48 = (d : Int) := ⟨c - 48, by omega⟩
      have hd9 : d ≤ 9 := by omega
      have HW8 : Hid (IntKind.u8.wrap ((d : Nat) : Int) = (d : Int)) := by unfold Hid; rw [IntKind.wrap_u8']; omega
      have HW64 : Hid (IntKind.u64.wrap ((d : Nat) : Int) = (d : Int)) := by unfold Hid; rw [IntKind.wrap_u64]; omega
      have HS : Hid (A * 10 + d = numOf (l.take (k + 1))) := by
        unfold Hid; rw [numOf_take_succ l k hlt, HC.out, ← HA.out]; omega
      have hA2 : nl (A * 10 + d) ≤ 65 := by
        rw [nl_le]
        have h1 := (nl_le _ _).1 hA4
        rw [Nat.pow_succ]; omega
      have hA3 : nl (A * 10) ≤ 1000000 := Nat.le_trans (nl_mono (Nat.le_add_right (A * 10) d)) (by omega)
      have hn10 : nl 10 ≤ 1000000 := by rw [nl_small (by decide) (by decide)]; decide
      have hnd : nl d ≤ 1000000 := Nat.le_trans (nl_two (by omega)) (by decide)
      have hdec : decide (((nl A : Nat) : Int) ≤ 64) = true := by simp; omega
      have HVA := Lib.hid HW.out.1
      clear hA4
      have HPR := Lib.hid (product_any (.slice oa (nl A) ca) (.slice (some ⟨wr.heap.size, 0, none⟩) 1 1) A 10 ((wr.alloc (.cells #[.int .u32 10] 54)).drew) (HVA.out.on ((On.refl wr).alloc _).drew) (Nv.on (ten_nv wr _ rfl) (On.refl _).drew) (by omega) hn10)
      have HO10 : Hid (On w ((wr.alloc (.cells #[.int .u32 10] 54)).drew)) := (HW.out.2.alloc _).drew
      clear hn10
      go_wp2
      go_region_held3 (fun w' => True) (trivial) (first
        | (go_at_call 65; refine HPR.out.mono ?_; rintro e wa ⟨va, rfl, hva, hOa⟩; have HVa := Lib.hid hva; have HOa := Lib.hid hOa; clear hva hOa)
        | (go_at_call 32; rw [HW8.out, HW64.out]; refine (nat_any d _ (by omega)).mono ?_; rintro e wb ⟨vb, rfl, hvb, hOb⟩; have HVb := Lib.hid hvb; have HOb := Lib.hid hOb; clear hvb hOb)
        | (go_at_call 60; refine (sum_any va vb (A * 10) d _ (HVa.out.on HOb.out) HVb.out hA3 hnd).mono ?_; rintro e wz ⟨vz, rfl, hvz, hOz⟩; have HV := Lib.hid hvz; have HO := Lib.hid (HO10.out.trans ((HOa.out.trans HOb.out).trans hOz)); clear hvz hOz))
      all_goals
        go_wp2
        go_roundw
        case rel => exact ⟨k + 1, A * 10 + d, by go_num, by omega, hA2, HS, HV.out, HO.out⟩
        case measure => simp [intOf]; omega
    · have HL : Hid (limC (numOf l) = limC A ∧ limN (numOf l) = limN A) := by
        by_cases h2 : nl A ≤ 64
        · obtain rfl : k = l.length := by omega
          have := HA.out
          rw [List.take_length] at this
          rw [this]; exact ⟨rfl, rfl⟩
        · exact limC_gt (by rw [HA.out]; exact numOf_take_le _ _) (by omega)
      have h3 : ¬ k < l.length ∨ (k < l.length ∧ ¬ nl A ≤ 64) := by omega
      clear hgo
      rcases h3 with h3 | ⟨h3, h4⟩
      · have hd1 : decide ((k : Int) < (l.length : Int)) = false := by simp; omega
        go_wp2_with (go_at_call 59; refine (limited_any _ A _ HW.out.1).mono ?_; rintro e w3 ⟨v3, rfl, h3', rfl⟩; have H3 := Lib.hid h3'; clear h3')
        first | go_ret | go_returns | go_ret2
        exact ⟨_, by rw [HL.out.1]; rfl, by rw [HL.out.2]; exact H3.out, HW.out.2⟩
      · have hd1 : decide (((nl A : Nat) : Int) ≤ 64) = false := by simp; omega
        clear h4
        go_wp2_with (go_at_call 59; refine (limited_any _ A _ HW.out.1).mono ?_; rintro e w3 ⟨v3, rfl, h3', rfl⟩; have H3 := Lib.hid h3'; clear h3')
        first | go_ret | go_returns | go_ret2
        exact ⟨_, by rw [HL.out.1]; rfl, by rw [HL.out.2]; exact H3.out, HW.out.2⟩
end Go.Proofs.Ytdgmlmcllkgemaa
