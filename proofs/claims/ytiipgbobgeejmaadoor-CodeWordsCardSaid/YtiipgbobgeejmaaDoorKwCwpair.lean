/- Fill on both sides: the same answers. -/
import Derived.Test.YtiipgbobgeejmaaDoorKwCfillE
import Derived.Test.YtiipgbobgeejmaaDoorKb15
import Derived.Test.YtiipgbobgeejmaaDoorKb18
import Derived.Test.YtiipgbobgeejmaaDoorKwCrefZ
namespace Go.Proofs.YtiipgbobgeejmaaDoor
open Go.RowKit
set_option linter.unusedVariables false

theorem fill_pair (f k : Int) (s m : Nat) (n : Int) (v : List Nat) (kn : Nat → Bool) (hk : -9223372036854775808 ≤ k ∧ k ≤ 9223372036854775807) (hs : s ≤ 18446744073709551615) (hL : v.length ≤ 512) :
    ∃ (L : List Nat) (c : Int),
      (∀ va vk w, Tab w → Reads w va v → ReadsK w vk kn m → Calls Tryd.prog 6 #[.agg #[.int .i64 f, .int .i64 k, .int .u64 (s : Int)], va, vk, .int .i64 n] w fun e w' => Ans w e w' L c) ∧
      (∀ va vk w, Tab w → Reads w va v → ReadsK w vk kn m → Calls Tryd.prog 7 #[.agg #[.int .i64 f, .int .i64 k, .int .u64 (s : Int)], va, vk, .int .i64 n] w fun e w' => Ans w e w' L c) := by
  by_cases hno : (decide (v.length = sizeD f k s) && validD f k s) = false ∨ m ≠ v.length
  · exact ⟨[], 1, fun va vk w hT hR hK => (fill_arg f k s m n v kn va vk w hT hk hs hR hK hno).mono fun e w' ⟨h1, h2⟩ => ans_nil h1 h2,
      fun va vk w hT hR hK => (rcfill_arg f k s m n v kn va vk w hT hk hs hR hK hno).mono fun e w' ⟨h1, h2⟩ => ans_nil h1 h2⟩
  · have hb : (decide (v.length = sizeD f k s) && validD f k s) = true := by
      cases h : (decide (v.length = sizeD f k s) && validD f k s)
      · exact absurd (.inl h) hno
      · rfl
    have hm : m = v.length := Classical.byContradiction fun h => hno (.inr h)
    subst hm
    by_cases hn : n < 0 ∨ (v.length : Int) < n
    · exact ⟨[], 2, fun va vk w hT hR hK => (fill_range f k s n v kn va vk w hT hk hs hR hK hb hn).mono fun e w' ⟨h1, h2⟩ => ans_nil h1 h2,
        fun va vk w hT hR hK => (rcfill_range f k s n v kn va vk w hT hk hs hR hK hb hn).mono fun e w' ⟨h1, h2⟩ => ans_nil h1 h2⟩
    · rw [Bool.and_eq_true, decide_eq_true_eq] at hb
      obtain ⟨hl, hv⟩ := hb
      obtain ⟨hvf, hk0, -⟩ := validD_parts hv
      obtain ⟨K, rfl⟩ : ∃ K : Nat, k = K := ⟨k.toNat, by omega⟩
      obtain ⟨N, rfl⟩ : ∃ N : Nat, n = N := ⟨n.toNat, by omega⟩
      rw [sizeD_nat hv] at hl
      have hp := (valid_iff f).1 hvf
      rw [hl] at hL hn ⊢
      have hN : N ≤ 2 ^ K := by omega
      by_cases hq : (firstN kn N (2 ^ K)).length = N
      · by_cases hA : ∃ va vk w, Tab w ∧ Reads w va v ∧ ReadsK w vk kn (2 ^ K)
        · obtain ⟨va0, vk0, w0, hT0, hR0, hK0⟩ := hA
          obtain ⟨p, hp1, -⟩ := fill_any f K s N v kn va0 vk0 w0 hT0 hv hl hL hN hR0 hK0 hq
          have same : ∀ q, FillP f K s v kn N q → q = p := fun q hq1 => by
            have e := fillP_only hv hq1 hq (q := p) hp1.2.2.1 hp1.2.2.2
            rw [e]
            exact normF_id hp hp1.1 hp1.2.1
          by_cases hall : ∀ i, i < 2 ^ K → kn i = true → (valL f K s p).getD i 0 = redF f (v.getD i 0)
          · refine ⟨valL f K s p, 0, fun va vk w hT hR hK => ?_, fun va vk w hT hR hK => ?_⟩
            · obtain ⟨q, hq1, hC⟩ := fill_any f K s N v kn va vk w hT hv hl hL hN hR hK hq
              obtain rfl := same q hq1
              refine hC.mono ?_
              rintro e w' ⟨⟨_, a, h1, h2⟩ | ⟨⟨i, h3, h4, h5⟩, _⟩, hO⟩
              · exact ⟨a, 2 ^ K, by rw [valL_len]; exact h1, by rw [valL_len]; exact h2, hO⟩
              · exact absurd (hall i h3 h4) h5
            · obtain ⟨q, hq1, hC⟩ := rcfill_any f K s N v kn va vk w hT hv hl hL hN hR hK hq
              obtain rfl := same q hq1
              refine hC.mono ?_
              rintro e w' ⟨⟨_, a, c, h1, h2⟩ | ⟨⟨i, h3, h4, h5⟩, _⟩, hO⟩
              · exact ⟨a, c, by rw [valL_len]; exact h1, by rw [valL_len]; exact h2, hO⟩
              · exact absurd (hall i h3 h4) h5
          · refine ⟨[], 7, fun va vk w hT hR hK => ?_, fun va vk w hT hR hK => ?_⟩
            · obtain ⟨q, hq1, hC⟩ := fill_any f K s N v kn va vk w hT hv hl hL hN hR hK hq
              obtain rfl := same q hq1
              refine hC.mono ?_
              rintro e w' ⟨⟨h, _⟩ | ⟨_, h1⟩, hO⟩
              · exact absurd h hall
              · exact ans_nil h1 hO
            · obtain ⟨q, hq1, hC⟩ := rcfill_any f K s N v kn va vk w hT hv hl hL hN hR hK hq
              obtain rfl := same q hq1
              refine hC.mono ?_
              rintro e w' ⟨⟨h, _⟩ | ⟨_, h1⟩, hO⟩
              · exact absurd h hall
              · exact ans_nil h1 hO
        · exact ⟨[], 0, fun va vk w hT hR hK => absurd ⟨va, vk, w, hT, hR, hK⟩ hA, fun va vk w hT hR hK => absurd ⟨va, vk, w, hT, hR, hK⟩ hA⟩
      · have hq2 : (firstN kn N (2 ^ K)).length < N := by have := firstN_len kn N (2 ^ K); omega
        exact ⟨[], 5, fun va vk w hT hR hK => (fill_short f K s N v kn va vk w hT hv hl hL hN hR hK hq2).mono fun e w' ⟨h1, h2⟩ => ans_nil h1 h2,
          fun va vk w hT hR hK => (rcfill_short f K s N v kn va vk w hT hv hl hL hN hR hK hq2).mono fun e w' ⟨h1, h2⟩ => ans_nil h1 h2⟩
end Go.Proofs.YtiipgbobgeejmaaDoor
