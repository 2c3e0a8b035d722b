/- The document's own natural, Nat and Parse, beside the program's. -/
import Derived.Test.YtdgmlmcllkgemaaQi
namespace Go.Proofs.Ytdgmlmcllkgemaa
open Go.RowKit
set_option linter.unusedVariables false

theorem rnatural_any (l : List UInt8) (w : World) (hl : l.length ≤ 9223372036854775807) :
    Calls Try.prog 71 #[str l] w fun e w' => e = .returned (.bool (textB l)) ∧ w = w' := by
  have hs : (⟨l.toArray⟩ : ByteArray).size = l.length := rfl
  unfold str
  go_enter Try.func71, Try.ntmps71
  go_hidden (go_wp2)
  go_loop [3] (fun vi => ∃ k : Nat, vi = .int .i64 k ∧ k ≤ l.length ∧ Hid ((l.take k).all digitB = true)) (fun vi => l.length - (intOf vi).toNat)
  case atStart => exact ⟨0, rfl, Nat.zero_le _, by unfold Hid; simp⟩
  case round =>
    obtain ⟨k, rfl, hk, HA⟩ := hrel
    by_cases hlt : k < l.length
    · obtain ⟨c, hc⟩ : ∃ c : Nat, (⟨l.toArray⟩ : ByteArray)[k].toNat = c := ⟨_, rfl⟩
      have HC : Hid (l[k].toNat = c) := hc
      have HS : Hid (l.take (k + 1) = l.take k ++ [l[k]]) := List.take_succ_eq_append_getElem hlt
      have hno : Hid (digitB l[k] = false → textB l = false) := fun h => by
        unfold textB
        have : l.all digitB = false := by
          rw [List.all_eq_false]
          exact ⟨l[k], List.getElem_mem hlt, by rw [h]; decide⟩
        rw [this]; rfl
      have hDG : Hid (digitB l[k] = decide (48 ≤ c ∧ c ≤ 57)) := by unfold Hid digitB; rw [HC.out]
      by_cases h1 : c < 48
      · have HF : Hid (textB l = false) := hno.out (by rw [hDG.out]; simp; omega)
        have h1d : decide ((c : Int) < 48) = true := by simp; omega
        go_wp2
        go_ret
        exact ⟨ret_bool HF.out.symm, rfl⟩
      · have h1d : decide ((c : Int) < 48) = false := by simp; omega
        by_cases h2 : 57 < c
        · have HF : Hid (textB l = false) := hno.out (by rw [hDG.out]; simp; omega)
          have h2d : decide (57 < (c : Int)) = true := by simp; omega
          go_wp2
          go_ret
          exact ⟨ret_bool HF.out.symm, rfl⟩
        · have h2d : decide (57 < (c : Int)) = false := by simp; omega
          go_wp2
          go_round
          case rel => exact ⟨k + 1, by go_num, by omega, by unfold Hid; rw [HS.out, List.all_append, HA.out, List.all_cons, List.all_nil, hDG.out]; simp; omega⟩
          case measure => simp [intOf]; omega
    · obtain rfl : k = l.length := by omega
      have hall : l.all digitB = true := by have := HA.out; rwa [List.take_length] at this
      rcases l with _ | ⟨c, t⟩
      · have HF : Hid (textB [] = false) := by unfold Hid; decide
        go_wp2
        go_ret
        exact ⟨ret_bool HF.out.symm, rfl⟩
      · by_cases h0 : c = 48 ∧ t = []
        · obtain ⟨rfl, rfl⟩ := h0
          have HF : Hid (textB [48] = true) := by unfold Hid; decide
          clear hall
          go_wp2
          all_goals first
            | (go_ret; exact ⟨ret_bool HF.out.symm, rfl⟩)
            | (exfalso; simp_all; done)
        · have hg : (c == 48 && t.isEmpty) = false := by
            cases hh : (c == 48 && t.isEmpty)
            · rfl
            · rw [Bool.and_eq_true] at hh
              exact absurd ⟨by simpa using hh.1, by simpa using hh.2⟩ h0
          have hz0 : 0 < (⟨(c :: t).toArray⟩ : ByteArray).size := Nat.zero_lt_succ _
          obtain ⟨d, hd⟩ : ∃ d : Nat, (⟨(c :: t).toArray⟩ : ByteArray)[0].toNat = d := ⟨_, rfl⟩
          have HD : Hid (c.toNat = d) := hd
          have HF : Hid (((d : Int) != 48) = textB (c :: t)) := by
            unfold Hid textB
            rw [hall, ← HD.out]
            have e1 : (c :: t == [48]) = false := by
              cases hh : (c :: t == [48])
              · rfl
              · have : c :: t = [48] := by simpa using hh
                injection this with h1 h2
                exact absurd ⟨h1, h2⟩ h0
            rw [e1]
            by_cases h48 : c = 48
            · subst h48; simp
            · have h2 : c.toNat ≠ 48 := fun h => h48 (UInt8.toNat_inj.1 (by rw [h]; rfl))
              have e2 : ((c.toNat : Int) == 48) = false := by simp; omega
              have e3 : ((c :: t).head? == some 48) = false := by simp [h48]
              have e4 : (c :: t == []) = false := rfl
              simp only [bne, e2, e3, e4, Bool.not_false, Bool.and_self, Bool.or_true, Bool.true_and]
          clear hall
          go_wp2
          go_ret
          exact ⟨ret_bool HF.out, rfl⟩
theorem rnat_any (n : Nat) (w : World) (hn : n ≤ 18446744073709551615) :
    Calls Try.prog 33 #[.int .u64 (n : Int)] w fun e w' => (∃ v, e = .returned v ∧ Nu w' v n) ∧ On w w' := by
  have h1 : (n : Int) % 4294967296 = ((n % 4294967296 : Nat) : Int) := by omega
  have h2 : (n : Int) / 4294967296 % 4294967296 = ((n / 4294967296 : Nat) : Int) := by omega
  have h3 : (n : Int) / 4294967296 = ((n / 4294967296 : Nat) : Int) := by omega
  have HE : Hid (n % 4294967296 + 4294967296 * (n / 4294967296) = n) := by unfold Hid; omega
  have HL : Hid (n < 4294967296 ^ 2) := by unfold Hid; simp; omega
  have HB1 : Hid (n % 4294967296 < 4294967296) := Nat.mod_lt _ (by decide)
  have HB2 : Hid (n / 4294967296 < 4294967296) := by unfold Hid; omega
  have H := Lib.hid (two_cells w (n % 4294967296) (n / 4294967296) HB1.out HB2.out)
  rw [HE.out] at H
  generalize hx : n % 4294967296 = a at *
  generalize hy : n / 4294967296 = b at *
  clear hx hy
  go_enter Try.func33, Try.ntmps33
  go_wp2_with (go_at_call 58; refine (rtrim_any _ 2 n _ H.out (Zc.some _ _ _) HL.out (by omega)).mono ?_; rintro e w5 ⟨⟨v', rfl, hv'⟩, hO5⟩; have HV := Lib.hid hv'.1; have HO5 := Lib.hid (((On.refl w).alloc _).trans hO5); clear hv' hO5)
  go_ret
  exact ⟨⟨_, rfl, HV.out⟩, HO5.out⟩
theorem rParse_bad (l : List UInt8) (w : World) (hl : l.length ≤ 9223372036854775807) (ht : textB l = false) :
    Calls Try.prog 29 #[str l] w fun e w' => (∃ v, e = .returned (.tuple #[v, .int .i64 4]) ∧ Nu w' v 0) ∧ On w w' := by
  have HN := Lib.hid (Nu.nil w)
  have HT := Lib.hid ht; clear ht
  have H := Lib.hid (rnatural_any l w hl)
  unfold str at *
  go_enter Try.func29, Try.ntmps29
  go_wp2_with (go_at_call 71; refine H.out.mono ?_; rw [HT.out]; rintro e w' ⟨rfl, rfl⟩)
  first | go_ret | go_returns | go_ret2
  exact ⟨⟨_, rfl, HN.out⟩, On.refl _⟩
theorem rbounded_nu (v : Value) (n : Nat) (w : World) (h : Nu w v n) :
    Calls Try.prog 61 #[v] w fun e w' => ∃ v', e = .returned (.tuple #[v', .int .i64 (limC n)]) ∧ Nu w v' (limN n) ∧ w = w' := by
  have HN := Lib.hid h
  obtain ⟨oa, cap, rfl, -, -, -⟩ := h.1
  by_cases hl : nl n ≤ 64
  · have HC : Hid (limC n = 0 ∧ limN n = n) := ⟨if_pos hl, if_pos hl⟩
    have hl1 : ¬ (64 < ((nl n : Nat) : Int)) := by omega
    go_enter Try.func61, Try.ntmps61
    go_wp2
    go_ret2
    exact ⟨_, by rw [HC.out.1]; rfl, by rw [HC.out.2]; exact HN.out, rfl⟩
  · have HC : Hid (limC n = 3 ∧ limN n = 0) := ⟨if_neg hl, if_neg hl⟩
    have hl1 : 64 < ((nl n : Nat) : Int) := by omega
    go_enter Try.func61, Try.ntmps61
    go_wp2
    go_ret2
    exact ⟨_, by rw [HC.out.1]; rfl, by rw [HC.out.2]; exact Nu.nil _, rfl⟩
theorem text_nl {l : List UInt8} (ht : textB l = true) : nl (numOf l) ≤ l.length ∧ (700 < l.length → ¬ nl (numOf l) ≤ 64) := by
  have hall : l.all digitB = true := by
    unfold textB at ht
    rw [Bool.and_eq_true] at ht
    exact ht.1
  refine ⟨(nl_le _ _).2 (Nat.lt_of_lt_of_le (numOf_lt hall) (Nat.pow_le_pow_left (by decide) _)), fun h h2 => ?_⟩
  have h3 := (dec_len _ h2).1
  rw [dec_numOf ht] at h3
  omega
theorem rParse_long (l : List UInt8) (w : World) (hl : l.length ≤ 9223372036854775807) (ht : textB l = true) (h7 : 700 < l.length) :
    Calls Try.prog 29 #[str l] w fun e w' => (∃ v, e = .returned (.tuple #[v, .int .i64 3]) ∧ Nu w' v 0) ∧ On w w' := by
  have hs : (⟨l.toArray⟩ : ByteArray).size = l.length := rfl
  have HN := Lib.hid (Nu.nil w)
  have HT := Lib.hid ht; clear ht
  have H := Lib.hid (rnatural_any l w hl)
  have h7' : (700 : Int) < (l.length : Int) := by omega
  unfold str at *
  go_enter Try.func29, Try.ntmps29
  go_wp2_with (go_at_call 71; refine H.out.mono ?_; rw [HT.out]; rintro e w' ⟨rfl, rfl⟩)
  go_ret2
  exact ⟨⟨_, rfl, HN.out⟩, On.refl _⟩
set_option maxHeartbeats 2000000 in
theorem rParse_yes (l : List UInt8) (w : World) (hl : l.length ≤ 9223372036854775807) (ht : textB l = true) (h7 : l.length ≤ 700) :
    Calls Try.prog 29 #[str l] w fun e w' => (∃ v, e = .returned (.tuple #[v, .int .i64 (limC (numOf l))]) ∧ Nu w' v (limN (numOf l))) ∧ On w w' := by
  have hs : (⟨l.toArray⟩ : ByteArray).size = l.length := rfl
  have HTN : Hid (∀ k, nl (numOf (l.take k)) ≤ 700) := fun k => Nat.le_trans (nl_mono (numOf_take_le l k)) (Nat.le_trans (text_nl ht).1 h7)
  have HD : Hid (∀ k (h : k < l.length), 48 ≤ l[k].toNat ∧ l[k].toNat ≤ 57) := by
    intro k h
    unfold textB at ht
    rw [Bool.and_eq_true, List.all_eq_true] at ht
    have := ht.1 l[k] (List.getElem_mem h)
    unfold digitB at this
    simpa using this
  have HT := Lib.hid ht; clear ht
  have H := Lib.hid (rnatural_any l w hl)
  have HN := Lib.hid (Nu.nil w)
  have h7' : ¬ ((700 : Int) < (l.length : Int)) := by omega
  unfold str at *
  go_enter Try.func29, Try.ntmps29
  go_wp2_with (go_at_call 71; refine H.out.mono ?_; rw [HT.out]; rintro e w' ⟨rfl, rfl⟩)
  go_loopw [4, 5] (fun v4 vi wr => ∃ (k : Nat) (oa : Option Addr) (n ca : Nat), vi = .int .i64 k ∧ k ≤ l.length ∧ v4 = .slice oa n ca ∧ Hid (Nu wr (.slice oa n ca) (numOf (l.take k)) ∧ On w wr)) (fun _ vi _ => l.length - (intOf vi).toNat)
  case atStart => exact ⟨0, none, 0, 0, rfl, Nat.zero_le _, rfl, HN.out, On.refl _⟩
  case round =>
    obtain ⟨k, oa, n, ca, rfl, hk, rfl, HW⟩ := hrel
    by_cases hlt : k < l.length
    · obtain ⟨c, hc⟩ : ∃ c : Nat, (⟨l.toArray⟩ : ByteArray)[k].toNat = c := ⟨_, rfl⟩
      have HC : Hid (l[k].toNat = c) := hc
      obtain ⟨hc1, hc2⟩ := HD.out k hlt
      rw [HC.out] at hc1 hc2
      obtain ⟨d, hd⟩ : ∃ d : Nat, (c : Int) - 48 = (d : Int) := ⟨c - 48, by omega⟩
      have hd9 : d ≤ 9 := by omega
      have HW8 : Hid (IntKind.u8.wrap ((d : Nat) : Int) = (d : Int)) := by unfold Hid; rw [IntKind.wrap_u8']; omega
      have HW64 : Hid (IntKind.u64.wrap ((d : Nat) : Int) = (d : Int)) := by unfold Hid; rw [IntKind.wrap_u64]; omega
      obtain ⟨A, hA⟩ : ∃ A, A = numOf (l.take k) := ⟨_, rfl⟩
      have HS : Hid (A * 10 + d = numOf (l.take (k + 1))) := by
        unfold Hid; rw [numOf_take_succ l k hlt, HC.out, ← hA]; omega
      have hAn : nl A ≤ 700 := by rw [hA]; exact HTN.out k
      have hA3 : nl (A * 10) ≤ 100000 := by
        refine Nat.le_trans (nl_mul_le A 10) ?_
        rw [nl_small (n := 10) (by decide) (by decide)]; omega
      have hn10 : nl 10 ≤ 100000 := by rw [nl_small (n := 10) (by decide) (by decide)]; decide
      have hnd : nl d ≤ 100000 := Nat.le_trans (nl_two (by omega)) (by decide)
      rw [← hA] at HW
      clear hA
      have HPR := Lib.hid (rproduct_any (.slice oa n ca) (.slice (some ⟨wr.heap.size, 0, none⟩) 1 1) A 10 ((wr.alloc (.cells #[.int .u32 10] 54)).drew) (HW.out.1.1.on ((On.refl wr).alloc _).drew) (Nv.on (ten_nv wr _ rfl) (On.refl _).drew) (by omega) hn10)
      have HO10 : Hid (On w ((wr.alloc (.cells #[.int .u32 10] 54)).drew)) := (HW.out.2.alloc _).drew
      clear hn10
      go_wp2
      go_region_held3 (fun w' => True) (trivial) (first
        | (go_at_call 66; refine HPR.out.mono ?_; rintro e wa ⟨⟨va, rfl, hva⟩, hOa⟩; have HVa := Lib.hid hva.1; have HOa := Lib.hid hOa; clear hva hOa)
        | (go_at_call 33; rw [HW8.out, HW64.out]; refine (rnat_any d _ (by omega)).mono ?_; rintro e wb ⟨⟨vb, rfl, hvb⟩, hOb⟩; have HVb := Lib.hid hvb.1; have HOb := Lib.hid hOb; clear hvb hOb)
        | (go_at_call 62; refine (rsum_any va vb (A * 10) d _ (HVa.out.on HOb.out) HVb.out hA3 hnd).mono ?_; rintro e wz ⟨⟨vz, rfl, hvz⟩, hOz⟩; have HV := Lib.hid hvz.1; have HO := Lib.hid (HO10.out.trans ((HOa.out.trans HOb.out).trans hOz)); obtain ⟨oz, cz, rfl, -, -, -⟩ := hvz.1.1; clear hvz hOz))
      all_goals
        go_wp2
        go_roundw
        case rel => exact ⟨k + 1, oz, _, cz, by go_num, by omega, rfl, by rw [← HS.out]; exact HV.out, HO.out⟩
        case measure => simp [intOf]; omega
    · obtain rfl : k = l.length := by omega
      have hv := HW.out.1
      rw [List.take_length] at hv
      have HV := Lib.hid hv; have HO := Lib.hid HW.out.2
      clear hv HW
      go_wp2_with (go_at_call 61; refine (rbounded_nu _ (numOf l) _ HV.out).mono ?_; rintro e w3 ⟨v3, rfl, h3', rfl⟩; have H3 := Lib.hid h3'; clear h3')
      go_ret2
      exact ⟨⟨_, rfl, H3.out⟩, HO.out⟩
/-- A number with its room, and an error. -/
abbrev AnsU (P : Program) (fn : FuncId) (args : Array Value) (w : World) (N : Nat) (c : Int) : Prop :=
  Calls P fn args w fun e w' => (∃ v, e = .returned (.tuple #[v, .int .i64 c]) ∧ Nu w' v N) ∧ On w w'
theorem AnsU.n {P : Program} {fn : FuncId} {args : Array Value} {w : World} {N : Nat} {c : Int} (h : AnsU P fn args w N c) : AnsN P fn args w N c := h.mono fun _ _ ⟨⟨v, h1, h2⟩, h3⟩ => ⟨⟨v, h1, h2.1⟩, h3⟩
/-- Parse, the program's and the document's own. -/
theorem parse_pair (l : List UInt8) (hl : l.length ≤ 9223372036854775807) :
    ∃ N c, (∀ w, AnsN Try.prog 28 #[str l] w N c) ∧ (∀ w, AnsU Try.prog 29 #[str l] w N c) ∧ (textB l = true → (c = 0 ∧ nl N ≤ 64) ∨ c = 3) := by
  cases ht : textB l
  · exact ⟨0, 4, fun w => (Parse_bad l w hl ht).mono fun e w' ⟨v, h1, h2, h3⟩ => ⟨⟨v, h1, h2⟩, h3⟩, fun w => rParse_bad l w hl ht, fun h => by cases h⟩
  · refine ⟨limN (numOf l), limC (numOf l), fun w => (Parse_yes l w hl ht).mono fun e w' ⟨v, h1, h2, h3⟩ => ⟨⟨v, h1, h2⟩, h3⟩, fun w => ?_, fun _ => ?_⟩
    · by_cases h7 : l.length ≤ 700
      · exact rParse_yes l w hl ht h7
      · have hb := (text_nl ht).2 (by omega)
        have e1 : limC (numOf l) = 3 := if_neg hb
        have e2 : limN (numOf l) = 0 := if_neg hb
        rw [e1, e2]
        exact rParse_long l w hl ht (by omega)
    · by_cases h : nl (numOf l) ≤ 64
      · have e2 : limN (numOf l) = numOf l := if_pos h
        exact .inl ⟨if_pos h, by rw [e2]; exact h⟩
      · exact .inr (if_neg h)
theorem nat_pair (n : Nat) (hn : n ≤ 18446744073709551615) (w : World) : AnsV Try.prog 32 #[.int .u64 (n : Int)] w n ∧ AnsV Try.prog 33 #[.int .u64 (n : Int)] w n :=
  ⟨(nat_any n w hn).mono fun e w' ⟨v, h1, h2, h3⟩ => ⟨⟨v, h1, h2⟩, h3⟩, (rnat_any n w hn).mono fun e w' ⟨⟨v, h1, h2⟩, h3⟩ => ⟨⟨v, h1, h2.1⟩, h3⟩⟩
end Go.Proofs.Ytdgmlmcllkgemaa
