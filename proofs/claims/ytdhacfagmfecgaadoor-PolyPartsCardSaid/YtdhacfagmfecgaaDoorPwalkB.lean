/- Package poly: Normal, Scale, Shift, Eval: what each call returns. -/
import Derived.Test.YtdhacfagmfecgaaDoorPwalkA
namespace Go.Proofs.YtdhacfagmfecgaaDoor
open Go.RowKit
set_option linter.unusedVariables false

theorem goInt_eq (n : Int) : goInt n = .int .i64 n := rfl
theorem normF_bd {f : Int} {l : List Nat} : ∀ x ∈ normF f l, x ≤ 18446744073709551615 := fun x hx => by have := normF_le f l x hx; omega

set_option maxHeartbeats 400000 in
theorem normal_any (f : Int) (l : List Nat) (v : Value) (w : World) (hT : Tab w) (hR : Reads w v l) (hL : l.length ≤ 17592186044416) :
    Calls Tryd.prog 7 #[.int .i64 f, v] w fun e w' => (∃ v', e = .returned v' ∧ Fre w.heap.size w' v' (normF f l)) ∧ On w w' := by
  have hnl := normF_len f l
  obtain ⟨n, hn⟩ : ∃ n, n = (normF f l).length := ⟨_, rfl⟩
  obtain ⟨a, cap, rfl⟩ := hR.shape
  have hmk := make_run n (by omega) w
  have hM := blk_made w n
  have hO0 : On w (w.alloc (.cells (madeCells #[.int .u64 0] n) 23)) := (On.refl hT).alloc _
  obtain ⟨w1, hcopy, hB1, hA1⟩ := copy_run _ w.heap.size n n _ l hM (hR.on hO0)
  have hO1 := hO0.ap (Nat.le_refl _) hA1
  have HU := Lib.hid hR.1
  have HR := Lib.hid hR
  have HN := Lib.hid hn
  have HC := Lib.hid hB1
  have HO := Lib.hid hO1
  rw [← hn] at hnl
  clear hR hn hM hB1 hA1 hO0 hO1
  go_enter Tryd.func7, Tryd.ntmps7
  go_wp2_with (go_at_call 31; refine (length_any f l _ _ hT HR.out).mono ?_; rintro e w' ⟨rfl, rfl⟩; rw [← HN.out])
  clear hmk hcopy
  go_loopw [16] (fun vi wr => ∃ (k : Nat) (o : List Nat), k ≤ n ∧ vi = .int .i64 k ∧ Hid (o.length = n) ∧ Blk w.heap.size wr o ∧ On w wr ∧ Hid (∀ i, i < n → o.getD i 0 = if i < k then redF f (l.getD i 0) else l.getD i 0)) (fun vi _ => n - (intOf vi).toNat)
  case atStart => exact ⟨0, _, Nat.zero_le _, rfl, pad_len _ _, HC.out, HO.out, Lib.hid (fun i hi => by rw [pad_getD, if_pos hi, if_neg (by omega)])⟩
  case round =>
    obtain ⟨k, o, hk, rfl, HL, hB, hOn, HA⟩ := hrel
    by_cases hlt : k < n
    · have hcell := hB.cell k (by rw [HL.out]; exact hlt)
      have hfr := hB.free k
      have hx := getD_mem l k (by omega)
      have hx2 := HU.out _ hx
      have he : o.getD k 0 = l.getD k 0 := by rw [HA.out k hlt, if_neg (by omega)]
      rw [he] at hcell
      have HB2 := Lib.hid (hB.set k (redF f (l.getD k 0)) (by rw [HL.out]; exact hlt))
      have HO2 : Hid (On w (wr.setCell ⟨w.heap.size, k, none⟩ (.int .u64 ((redF f (l.getD k 0) : Nat) : Int)))) := hOn.setCell (Nat.le_refl _) _
      have HA2 : Hid (∀ i, i < n → (o.set k (redF f (l.getD k 0))).getD i 0 = if i < k + 1 then redF f (l.getD i 0) else l.getD i 0) := by
        intro i hi
        rw [getD_set1 o k _ i (by rw [HL.out]; exact hlt)]
        by_cases h : i = k
        · subst h; rw [if_pos rfl, if_pos (by omega)]
        · rw [if_neg h, HA.out i hi]
          by_cases h2 : i < k
          · rw [if_pos h2, if_pos (by omega)]
          · rw [if_neg h2, if_neg (by omega)]
      have HL2 : Hid ((o.set k (redF f (l.getD k 0))).length = n) := by unfold Hid; rw [List.length_set]; exact HL.out
      have hTr := hOn.tab
      clear hB hOn HA he hx HL
      generalize l.getD k 0 = x at *
      go_wp2_with (go_at_call 32; refine (reduce_any f x _ hTr hx2).mono ?_; rintro e w' ⟨rfl, rfl⟩)
      go_roundw
      case rel => exact ⟨k + 1, _, by omega, by go_num, HL2, HB2.out, HO2.out, HA2⟩
      case measure => simp [intOf]; omega
    · obtain rfl : k = n := by omega
      have hE : o = normF f l := list_ext (by rw [HL.out, HN.out]) fun i hi => by
        rw [HL.out] at hi
        rw [HA.out i hi, if_pos hi, normF_getD]
      have hLo := HL.out
      subst hE
      have hB' := Lib.hid hB
      have hO' := Lib.hid hOn
      clear HA HL hB hOn
      have HLo := Lib.hid hLo
      clear hLo
      go_wp2_with (go_at_call 33; have ht := trim_blk w.heap.size w.heap.size (normF f l) k wr (by rw [HLo.out]; exact Nat.le_refl _) (by omega) hB'.out (Nat.le_refl _); rw [HLo.out] at ht; refine ht.mono ?_; rintro e w' ⟨⟨v', rfl, hF⟩, rfl⟩)
      go_ret
      exact ⟨⟨_, rfl, hF.eq (strip_norm (normF_norm f l))⟩, hO'.out⟩

theorem eval_any (f : Int) (l : List Nat) (x : Nat) (v : Value) (w : World) (hT : Tab w) (hR : Reads w v l) (hx : x ≤ 18446744073709551615) :
    Calls Tryd.prog 17 #[.int .i64 f, v, .int .u64 (x : Int)] w fun e w' => e = .returned (.int .u64 ((evF f l x : Nat) : Int)) ∧ ∃ n, w' = w.drewN n := by
  obtain ⟨hU, hL, hR⟩ := hR
  obtain ⟨a, cap, rfl⟩ : ∃ a cap, v = .slice a l.length cap := by
    rcases hR with ⟨rfl, a, cap, rfl⟩ | ⟨b, off, cap, rfl, _⟩
    · exact ⟨_, _, rfl⟩
    · exact ⟨_, _, rfl⟩
  have hc : ∀ i, i < l.length → ∃ b off, a = some ⟨b, off, none⟩ ∧ w.cell? ⟨b, off + i, none⟩ = some (.int .u64 ((l.getD i 0 : Nat) : Int)) := by
    intro i hi
    rcases hR with ⟨rfl, _⟩ | ⟨b, off, cap, he, hc⟩
    · simp at hi
    · simp only [Value.slice.injEq] at he
      exact ⟨b, off, he.1, hc i hi⟩
  clear hR
  have hev0 : evF f [] x = 0 := by
    rcases Nat.eq_zero_or_pos (pOf f) with h | h
    · exact evF_zero _ _ h
    · rw [evF_pos _ _ h]; exact Nat.zero_mod _
  go_enter Tryd.func17, Tryd.ntmps17
  go_hidden (go_wp2)
  go_loopw [7, 8] (fun vv vi wr => ∃ k m : Nat, k ≤ l.length ∧ vi = .int .i64 ((k : Int) - 1) ∧ vv = .int .u64 ((evF f (l.drop k) x : Nat) : Int) ∧ Hid (wr = w.drewN m)) (fun _ vi _ => ((intOf vi) + 1).toNat)
  case atStart => exact ⟨l.length, 0, Nat.le_refl _, rfl, by rw [List.drop_length, hev0]; rfl, rfl⟩
  case round =>
    obtain ⟨k, m, hk, rfl, rfl, HW⟩ := hrel
    have hTr : Tab wr := by rw [HW.out]; exact hT.drewN m
    have hv := evF_le f (l.drop k) x
    cases k with
    | zero =>
      clear hc hU
      go_wp2
      go_ret
      exact ⟨rfl, m, HW.out⟩
    | succ k =>
      obtain ⟨b, off, rfl, hcell⟩ := hc k (by omega)
      rw [show w.cell? ⟨b, off + k, none⟩ = wr.cell? ⟨b, off + k, none⟩ by rw [HW.out]; rfl] at hcell
      have hy := hU _ (getD_mem l k (by omega))
      have hki : ((k + 1 : Nat) : Int) - 1 = (k : Int) := by omega
      have HS : Hid (addF f (mulF f (evF f (l.drop (k + 1)) x) x) (l.getD k 0) = evF f (l.drop k) x) := by
        unfold Hid; rw [evF_cons, ← drop_cons l k (by omega)]
      have hm := mulF_le f (evF f (l.drop (k + 1)) x) x
      clear hc hU hev0
      generalize l.getD k 0 = y at *
      generalize evF f (l.drop (k + 1)) x = z at *
      rw [hki]
      clear hki
      go_wp2
      go_quiet ((first | (go_at_call 42; exact quiet_of_eq (mul_any _ _ _ _ (hTr.drewN _) (by omega) hx)) | (go_at_call 37; exact quiet_of_eq (add_any _ _ _ _ (hTr.drewN _) (by omega) hy))))
      go_wp2
      go_roundw
      case rel => exact ⟨k, m + nq, by omega, rfl, by rw [HS.out], by unfold Hid; rw [HW.out]; exact World.drewN_drewN _ _ _⟩
      case measure => simp [intOf]
end Go.Proofs.YtdhacfagmfecgaaDoor
