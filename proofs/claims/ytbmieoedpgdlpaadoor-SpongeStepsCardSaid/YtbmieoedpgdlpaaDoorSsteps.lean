/- The walk of the law SpongeSteps: it returns true. -/
import Derived.Test.YtbmieoedpgdlpaaDoorShashes
import Derived.Test.YtbmieoedpgdlpaaDoorSnodes
namespace Go.Proofs.YtbmieoedpgdlpaaDoor
open Go.RowKit
set_option linter.unusedVariables false

def inS (f : Int) (l : List Nat) (s : St) (i : Nat) : St := if i % 2 = 0 then ⟨(s.a + l.getD i 0) % pOf f, s.b, s.c, s.d⟩ else ⟨s.a, (s.b + l.getD i 0) % pOf f, s.c, s.d⟩
/-- The state after i elements. -/
def stpS (f : Int) (l : List Nat) (m : Nat) : Nat → St
  | 0 => hashTo f l 0
  | i + 1 => if i % 2 = 1 ∨ i + 1 = m then permS f (inS f l (stpS f l m i) i) else inS f l (stpS f l m i) i
theorem inS_els (f : Int) (l : List Nat) (s : St) (i : Nat) (hp : 0 < pOf f) (hs : Els f s) : Els f (inS f l s i) := by
  obtain ⟨h1, h2, h3, h4⟩ := hs
  unfold inS; split
  · exact ⟨Nat.mod_lt _ hp, h2, h3, h4⟩
  · exact ⟨h1, Nat.mod_lt _ hp, h3, h4⟩
theorem stpS_els (f : Int) (l : List Nat) (m : Nat) (hp : 0 < pOf f) : ∀ i, Els f (stpS f l m i) := by
  intro i
  induction i with
  | zero => exact hashTo_els f l 0 hp
  | succ i ih =>
    rw [stpS]; split
    · exact permS_els f _ hp
    · exact inS_els f l _ i hp ih
theorem stp_even (f : Int) (l : List Nat) : ∀ k, 2 * k ≤ l.length → stpS f l l.length (2 * k) = hashTo f l k := by
  intro k
  induction k with
  | zero => intro _; rfl
  | succ k ih =>
    intro h
    rw [show 2 * (k + 1) = (2 * k + 1) + 1 by omega, stpS, if_pos (.inl (by omega)), stpS, if_neg (by omega), ih (by omega), hashTo]
    unfold inS
    rw [if_neg (show ¬ (2 * k + 1) % 2 = 0 by omega), if_pos (show (2 * k) % 2 = 0 by omega)]
theorem stp_end (f : Int) (l : List Nat) (hp : 0 < pOf f) (h0 : 0 < l.length) : stpS f l l.length l.length = hashS f l := by
  unfold hashS
  rw [if_neg (by omega)]
  by_cases h2 : l.length % 2 = 0
  · have e := stp_even f l (l.length / 2) (by omega)
    rw [show 2 * (l.length / 2) = l.length by omega] at e
    rw [e, show (l.length + 1) / 2 = l.length / 2 by omega]
  · obtain ⟨k, hk⟩ : ∃ k, l.length = 2 * k + 1 := ⟨l.length / 2, by omega⟩
    have e := stp_even f l k (by omega)
    have hx : l.getD (2 * k + 1) 0 = 0 := by rw [List.getD_eq_getElem?_getD, List.getElem?_eq_none (by omega)]; rfl
    have hb := (hashTo_els f l k hp).2.1
    rw [show (l.length + 1) / 2 = k + 1 by omega, show stpS f l l.length l.length = stpS f l l.length (2 * k + 1) by rw [← hk], stpS, if_pos (.inr hk.symm), e, hashTo]
    unfold inS
    rw [if_pos (by omega), hx, Nat.add_zero, Nat.mod_eq_of_lt hb]
theorem pa (f : Int) (a b c : Nat) (w : World) (hT : Tab w) (h : addF f a b = c) (ha : a ≤ 18446744073709551615) (hb : b ≤ 18446744073709551615) : Calls Tryd.prog 27 #[.int .i64 f, .int .u64 (a : Int), .int .u64 (b : Int)] w fun e w' => e = .returned (.int .u64 (c : Int)) ∧ On w w' := by
  subst h
  refine (add_any f a b w hT ha hb).mono ?_
  rintro e w' ⟨he, rfl⟩
  exact ⟨he, On.refl hT⟩
theorem node_zero (f : Int) (hv : validB f = true) : okN f (nodeA f 0 0 0 0) = okN f (hashS f []).a ∧ okN f (nodeB f 0 0 0 0) = okN f (hashS f []).b := by
  have hp := (valid_iff f).1 hv
  have e : hashS f [] = permS f ⟨0, 0, 0, 0⟩ := by
    unfold hashS; rw [if_pos (show ([] : List Nat).length = 0 from rfl)]; unfold hashTo; rw [List.length_nil, Nat.zero_mod]
  have h := permS_els f ⟨0, 0, 0, 0⟩ hp
  rw [okN_yes hv, okN_yes hv, okN_yes hv, okN_yes hv, e]
  unfold nodeA nodeB
  rw [Nat.add_zero, Nat.add_zero, Nat.mod_eq_of_lt h.1, Nat.mod_eq_of_lt h.2.1]
  exact ⟨rfl, rfl⟩
set_option maxHeartbeats 8000000 in
set_option maxRecDepth 100000 in
theorem steps_any (n : Nat) (l : List Nat) (v : Value) (a b c d : Nat) (w : World) (hT : Tab w) (hn : n ≤ 255) (hR : Reads w v l) (hz : Shape v l) (ha : a ≤ 18446744073709551615) (hb : b ≤ 18446744073709551615) (hc : c ≤ 18446744073709551615) (hd : d ≤ 18446744073709551615) :
    Calls Tryd.prog 10 #[.int .u8 (n : Int), v, .agg #[.int .u64 (a : Int), .int .u64 (b : Int)], .agg #[.int .u64 (c : Int), .int .u64 (d : Int)]] w fun e w' => e = .returned (.bool true) ∧ On w w' := by
  obtain ⟨F, hF⟩ : ∃ F : Nat, (n : Int) % 4 = (F : Int) := ⟨n % 4, by omega⟩
  have hF4 : F < 4 := by omega
  have hv : validB (F : Int) = true := by unfold validB; simp; omega
  have hp := (valid_iff (F : Int)).1 hv
  have hle := pOf_le (F : Int)
  have HV := Lib.hid hv
  have HL4 : Hid (a ≤ 18446744073709551615 ∧ b ≤ 18446744073709551615 ∧ c ≤ 18446744073709551615 ∧ d ≤ 18446744073709551615) := ⟨ha, hb, hc, hd⟩
  obtain ⟨sa, cap, rfl, h1, h2, h3⟩ := hz
  obtain ⟨m, hm⟩ : ∃ m, m = min l.length 100 := ⟨_, rfl⟩
  have hmin : min ((l.length : Nat) : Int) 100 = (m : Int) := by omega
  have hRt := list_take hR 100 m hm
  have hlen : (l.take 100).length = m := by rw [List.length_take, Nat.min_comm]; exact hm.symm
  have hmm : m ≤ cap ∧ cap ≤ 9223372036854775807 ∧ m ≤ 200 := ⟨by omega, h2, by omega⟩
  obtain ⟨N0, hN0⟩ : ∃ N, N = l.length := ⟨_, rfl⟩
  rw [← hN0] at hmin h1 ⊢
  have hN2 : sa = none → N0 = 0 := fun h => by have := h3 h; omega
  generalize hLL : l.take 100 = L at hRt hlen
  obtain ⟨u, hu, hB⟩ := box2d hT a b c d 32
  have HB := Lib.hid hB
  have HW := Lib.hid hu
  have HSZ : Hid (u.heap.size = w.heap.size + 1 + 1) := by refine Lib.hid ?_; rw [hu]; simp
  obtain ⟨X, hX⟩ : ∃ X, addF (F : Int) m 0 = X := ⟨_, rfl⟩
  have HA0 : Hid (Calls Tryd.prog 27 #[.int .i64 (F : Int), .int .u64 (m : Int), .int .u64 0] u fun e w' => e = .returned (.int .u64 (X : Int)) ∧ u = w') := by
    have h := add_any (F : Int) m 0 u hB.2.2.tab (by omega) (by omega); rw [hX] at h; exact h
  have hX0 : X = m % pOf (F : Int) := by rw [← hX, addF_pos _ _ _ hp, Nat.add_zero]
  have ht0 : hashTo (F : Int) L 0 = ⟨0, 0, X, 0⟩ := by rw [hX0, ← hlen]; rfl
  have hXle : X < pOf (F : Int) := by rw [hX0]; exact Nat.mod_lt _ hp
  obtain ⟨z, hzz⟩ : ∃ z, hashS (F : Int) L = z := ⟨_, rfl⟩
  obtain ⟨q, hq⟩ : ∃ q, permS (F : Int) ⟨a, b, c, d⟩ = q := ⟨_, rfl⟩
  obtain ⟨NA, hNA⟩ : ∃ N, okN (F : Int) (nodeA (F : Int) a b c d) = N := ⟨_, rfl⟩
  obtain ⟨NB, hNB⟩ : ∃ N, okN (F : Int) (nodeB (F : Int) a b c d) = N := ⟨_, rfl⟩
  obtain ⟨Z0, hZ0⟩ : ∃ N, okN (F : Int) (hashS (F : Int) []).a = N := ⟨_, rfl⟩
  obtain ⟨Z1, hZ1⟩ : ∃ N, okN (F : Int) (hashS (F : Int) []).b = N := ⟨_, rfl⟩
  have hnz := node_zero (F : Int) hv
  rw [hZ0, hZ1] at hnz
  have hqe : Els (F : Int) q := by rw [← hq]; exact permS_els _ _ hp
  have hna : addF (F : Int) q.a a = NA := by rw [← hNA, okN_yes hv, addF_pos _ _ _ hp, nodeA, hq]
  have hnb : addF (F : Int) q.b b = NB := by rw [← hNB, okN_yes hv, addF_pos _ _ _ hp, nodeB, hq]
  have hza : okN (F : Int) (hashS (F : Int) L).a = z.a := by rw [okN_yes hv, hzz]
  have hzb : okN (F : Int) (hashS (F : Int) L).b = z.b := by rw [okN_yes hv, hzz]
  have HPQ : Hid (∀ wq, On w wq → Calls Tryd.prog 17 #[.int .i64 (F : Int), .agg #[.int .u64 (a : Int), .int .u64 (b : Int), .int .u64 (c : Int), .int .u64 (d : Int)]] wq fun e w' => e = .returned (.agg #[.int .u64 (q.a : Int), .int .u64 (q.b : Int), .int .u64 (q.c : Int), .int .u64 (q.d : Int)]) ∧ On wq w') := fun wq h => by
    have h' := perm_any (F : Int) ⟨a, b, c, d⟩ wq h.tab ⟨ha, hb, hc, hd⟩; rw [okS_yes hv, hq] at h'; exact h'
  have HHZ : Hid (∀ u, On w u → ∀ wq, On u wq → Calls Tryd.prog 21 #[.int .i64 (F : Int), .slice sa m cap] wq fun e w' => e = .returned (.agg #[.int .u64 (z.a : Int), .int .u64 (z.b : Int)]) ∧ On u w') := fun u hu wq h => (ph (F : Int) L sa m cap z.a z.b wq h.tab (hRt.on (hu.trans h)) hlen hmm hza hzb).mono fun e w' ⟨he, ho⟩ => ⟨he, h.trans ho⟩
  have HNZ : Hid (∀ u, On w u → ∀ wq, On u wq → Calls Tryd.prog 23 #[.int .i64 (F : Int), .agg #[.int .u64 (a : Int), .int .u64 (b : Int)], .agg #[.int .u64 (c : Int), .int .u64 (d : Int)]] wq fun e w' => e = .returned (.agg #[.int .u64 (NA : Int), .int .u64 (NB : Int)]) ∧ On u w') := fun u hu wq h => (pn (F : Int) a b c d NA NB wq h.tab ⟨ha, hb, hc, hd⟩ hNA hNB).mono fun e w' ⟨he, ho⟩ => ⟨he, h.trans ho⟩
  have HA1 : Hid (∀ u, On w u → ∀ wq, On u wq → Calls Tryd.prog 27 #[.int .i64 (F : Int), .int .u64 (q.a : Int), .int .u64 (a : Int)] wq fun e w' => e = .returned (.int .u64 (NA : Int)) ∧ On u w') := fun u hu wq h => (pa (F : Int) q.a a NA wq h.tab hna (by have := hqe.1; omega) ha).mono fun e w' ⟨he, ho⟩ => ⟨he, h.trans ho⟩
  have HA2 : Hid (∀ u, On w u → ∀ wq, On u wq → Calls Tryd.prog 27 #[.int .i64 (F : Int), .int .u64 (q.b : Int), .int .u64 (b : Int)] wq fun e w' => e = .returned (.int .u64 (NB : Int)) ∧ On u w') := fun u hu wq h => (pa (F : Int) q.b b NB wq h.tab hnb (by have := hqe.2.1; omega) hb).mono fun e w' ⟨he, ho⟩ => ⟨he, h.trans ho⟩
  have HZ0 : Hid (∀ u, On w u → ∀ wq, On u wq → Calls Tryd.prog 21 #[.int .i64 (F : Int), .slice none 0 0] wq fun e w' => e = .returned (.agg #[.int .u64 (Z0 : Int), .int .u64 (Z1 : Int)]) ∧ On u w') := fun u hu wq h => (ph (F : Int) [] none 0 0 Z0 Z1 wq h.tab (Reads.nil _ _ _) rfl (by omega) hZ0 hZ1).mono fun e w' ⟨he, ho⟩ => ⟨he, h.trans ho⟩
  have HZ1 : Hid (∀ u, On w u → ∀ wq, On u wq → Calls Tryd.prog 23 #[.int .i64 (F : Int), .agg #[.int .u64 0, .int .u64 0], .agg #[.int .u64 0, .int .u64 0]] wq fun e w' => e = .returned (.agg #[.int .u64 (Z0 : Int), .int .u64 (Z1 : Int)]) ∧ On u w') := fun u hu wq h => (pn (F : Int) 0 0 0 0 Z0 Z1 wq h.tab (by omega) hnz.1 hnz.2).mono fun e w' ⟨he, ho⟩ => ⟨he, h.trans ho⟩
  have HZT : Hid (0 < m → stpS (F : Int) L m m = z) := fun h => by have e := stp_end (F : Int) L hp (by omega); rw [hlen, hzz] at e; exact e
  have HPZ : Hid (m = 0 → ∀ wq, On w wq → Calls Tryd.prog 17 #[.int .i64 (F : Int), .agg #[.int .u64 0, .int .u64 0, .int .u64 (X : Int), .int .u64 0]] wq fun e w' => e = .returned (.agg #[.int .u64 (z.a : Int), .int .u64 (z.b : Int), .int .u64 (z.c : Int), .int .u64 (z.d : Int)]) ∧ On wq w') := fun h0 wq h => by
    have h' := perm_any (F : Int) ⟨0, 0, X, 0⟩ wq h.tab ⟨Nat.zero_le _, Nat.zero_le _, by show X ≤ _; omega, Nat.zero_le _⟩
    rw [okS_yes hv, show permS (F : Int) ⟨0, 0, X, 0⟩ = z from by rw [← hzz, ← ht0]; unfold hashS; rw [if_pos (by omega)]] at h'
    exact h'
  have hwm : IntKind.u64.wrap ((m : Nat) : Int) = ((m : Nat) : Int) := IntWalk.u64_in _ (by omega)
  have HRT := Lib.hid hRt
  have HLN := Lib.hid hlen
  have HTH := Lib.hid ht0
  have hmc := hmm.1
  have hmax : max (m : Int) 0 = (m : Int) := by omega
  have hmN : m ≤ N0 := by omega
  clear hN0 hm hLL hR hRt hlen hmm hu hB hX hX0 ht0 hzz hq hNA hNB hZ0 hZ1 hnz hqe hna hnb hza hzb hT hv ha hb hc hd
  rcases sa with _ | ad
  · have hc0 := h3 rfl
    subst hc0
    obtain rfl : m = 0 := by omega
    obtain rfl : N0 = 0 := hN2 rfl
    replace HPZ := Lib.hid (HPZ.out rfl)
    clear h1 h2 h3 hN2 hmin hmc hmN HZT HRT HLN HTH
    have hmin : min (0 : Int) 100 = 0 := by decide
    go_enter Tryd.func10, Tryd.ntmps10
    go_upto_region 1 with fail
    rw [← HW.out]
    go_wp2_with fail
    refine HA0.out.mono ?_
    rintro e w1 ⟨rfl, rfl⟩
    have HS1 := Lib.hid (blk_new4 u 0 0 X 0 23)
    have HO1 : Hid (On u (u.alloc (.cells #[.int .u64 0, .int .u64 0, .int .u64 (X : Int), .int .u64 0] 23))) := (On.refl HB.out.2.2.tab).alloc _
    rw [HSZ.out] at HS1
    go_upto_region 4 with fail
    rw [HSZ.out]
    generalize hw2 : u.alloc (.cells #[.int .u64 0, .int .u64 0, .int .u64 (X : Int), .int .u64 0] 23) = w2 at *
    clear hw2
    have HD12 := Lib.hid (HB.out.1.on HO1.out)
    have HD22 := Lib.hid (HB.out.2.1.on HO1.out)
    have HO2 := Lib.hid (HB.out.2.2.trans HO1.out)
    clear HO1 HB
    have c0 : w2.cell? ⟨w.heap.size + 1 + 1, 0, none⟩ = some (.int .u64 0) := HS1.out.at4 0 (by omega)
    have c1 : w2.cell? ⟨w.heap.size + 1 + 1, 1, none⟩ = some (.int .u64 0) := HS1.out.at4 1 (by omega)
    have c2 : w2.cell? ⟨w.heap.size + 1 + 1, 2, none⟩ = some (.int .u64 (X : Int)) := HS1.out.at4 2 (by omega)
    have c3 : w2.cell? ⟨w.heap.size + 1 + 1, 3, none⟩ = some (.int .u64 0) := HS1.out.at4 3 (by omega)
    have HC := Lib.hid (HPZ.out w2 HO2.out)
    go_wp2_with fail
    with_reducible refine HC.out.mono ?_
    rintro e w5 ⟨rfl, hO5⟩
    have HS5 : Hid (Blk (w.heap.size + 1 + 1) w5 (fl4 (ix ⟨0, 0, X, 0⟩))) := HS1.out.on hO5
    have HD5 := Lib.hid (HD12.out.on hO5)
    have HE5 := Lib.hid (HD22.out.on hO5)
    have HO5 := Lib.hid (HO2.out.trans hO5)
    clear hO5 HC c0 c1 c2 c3 HS1 HD12 HD22 HO2
    obtain ⟨y0, y1, y2, y3⟩ := HS5.out.cells4
    obtain ⟨g0, g1, g2, g3⟩ := HS5.out.free4
    have HS6 := Lib.hid (HS5.out.store4 z)
    have HD6 := Lib.hid (HD5.out.other4 (C := w.heap.size + 1 + 1) (by omega) (.int .u64 (z.a : Int)) (.int .u64 (z.b : Int)) (.int .u64 (z.c : Int)) (.int .u64 (z.d : Int)))
    have HE6 := Lib.hid (HE5.out.other4 (C := w.heap.size + 1 + 1) (by omega) (.int .u64 (z.a : Int)) (.int .u64 (z.b : Int)) (.int .u64 (z.c : Int)) (.int .u64 (z.d : Int)))
    have HO6 := Lib.hid (HO5.out.store4 (C := w.heap.size + 1 + 1) (by omega) (.int .u64 (z.a : Int)) (.int .u64 (z.b : Int)) (.int .u64 (z.c : Int)) (.int .u64 (z.d : Int)))
    go_wp2_with fail
    generalize hw6 : (((w5.setCell ⟨w.heap.size + 1 + 1, 0, none⟩ (.int .u64 (z.a : Int))).setCell ⟨w.heap.size + 1 + 1, 1, none⟩ (.int .u64 (z.b : Int))).setCell ⟨w.heap.size + 1 + 1, 2, none⟩ (.int .u64 (z.c : Int))).setCell ⟨w.heap.size + 1 + 1, 3, none⟩ (.int .u64 (z.d : Int)) = w6 at *
    clear hw6 HS5 HD5 HE5 HO5 y0 y1 y2 y3 g0 g1 g2 g3
    go_loopw [11] (fun vi wr => vi = .int .i64 0 ∧ Hid (Blk (w.heap.size + 1 + 1) wr (fl4 (ix z))) ∧ Hid (Blk w.heap.size wr [a, b]) ∧ Hid (Blk (w.heap.size + 1) wr [c, d]) ∧ Hid (On w wr)) (fun vi _ => 0)
    case atStart => exact ⟨rfl, HS6, HD6, HE6, HO6⟩
    case round =>
      clear HS6 HD6 HE6 HO6
      obtain ⟨rfl, HS, HD1, HD2, HO⟩ := hrel
      obtain ⟨a0, a1⟩ := HD1.out.cells2
      obtain ⟨b0, b1⟩ := HD2.out.cells2
      have HPC := Lib.hid (HPQ.out wr HO.out)
      go_wp2_with fail
      with_reducible refine HPC.out.mono ?_
      rintro e w7 ⟨rfl, hO7⟩
      have HS7 := Lib.hid (HS.out.on hO7)
      have HD7 := Lib.hid (HD1.out.on hO7)
      have HE7 := Lib.hid (HD2.out.on hO7)
      have HO7 := Lib.hid (HO.out.trans hO7)
      have HQ8 := Lib.hid (blk_new4 w7 q.a q.b q.c q.d 23)
      have HO78 : Hid (On w7 (w7.alloc (.cells #[.int .u64 (q.a : Int), .int .u64 (q.b : Int), .int .u64 (q.c : Int), .int .u64 (q.d : Int)] 23))) := (On.refl HO7.out.tab).alloc _
      clear hO7 HS HD1 HD2 HO a0 a1 b0 b1 HPC
      go_upto_region 13 with fail
      generalize hw8 : w7.alloc (.cells #[.int .u64 (q.a : Int), .int .u64 (q.b : Int), .int .u64 (q.c : Int), .int .u64 (q.d : Int)] 23) = u at *
      clear hw8
      have HS8 := Lib.hid (HS7.out.on HO78.out)
      have HD8 := Lib.hid (HD7.out.on HO78.out)
      have HE8 := Lib.hid (HE7.out.on HO78.out)
      have HO8 := Lib.hid (HO7.out.trans HO78.out)
      clear HS7 HD7 HE7 HO7 HO78
      generalize w7.heap.size = QB at *
      have HK : Hid (∀ wq, On u wq → _) := fun wq hq => And.intro (HS8.out.on hq).cells4 (And.intro (HD8.out.on hq).cells2 (And.intro (HE8.out.on hq).cells2 (HQ8.out.on hq).cells4))
      have HHS : Hid (∀ wq, On u wq → Calls Tryd.prog 21 #[.int .i64 (F : Int), .slice none 0 0] wq fun e w' => e = .returned (.agg #[.int .u64 (z.a : Int), .int .u64 (z.b : Int)]) ∧ On u w') := fun wq h => HHZ.out u HO8.out wq h
      have HND : Hid (∀ wq, On u wq → Calls Tryd.prog 23 #[.int .i64 (F : Int), .agg #[.int .u64 (a : Int), .int .u64 (b : Int)], .agg #[.int .u64 (c : Int), .int .u64 (d : Int)]] wq fun e w' => e = .returned (.agg #[.int .u64 (NA : Int), .int .u64 (NB : Int)]) ∧ On u w') := HNZ.out u HO8.out
      have HAA : Hid (∀ wq, On u wq → Calls Tryd.prog 27 #[.int .i64 (F : Int), .int .u64 (q.a : Int), .int .u64 (a : Int)] wq fun e w' => e = .returned (.int .u64 (NA : Int)) ∧ On u w') := HA1.out u HO8.out
      have HAB : Hid (∀ wq, On u wq → Calls Tryd.prog 27 #[.int .i64 (F : Int), .int .u64 (q.b : Int), .int .u64 (b : Int)] wq fun e w' => e = .returned (.int .u64 (NB : Int)) ∧ On u w') := HA2.out u HO8.out
      have HH0 : Hid (∀ wq, On u wq → Calls Tryd.prog 21 #[.int .i64 (F : Int), .slice none 0 0] wq fun e w' => e = .returned (.agg #[.int .u64 (Z0 : Int), .int .u64 (Z1 : Int)]) ∧ On u w') := HZ0.out u HO8.out
      have HN0 : Hid (∀ wq, On u wq → Calls Tryd.prog 23 #[.int .i64 (F : Int), .agg #[.int .u64 0, .int .u64 0], .agg #[.int .u64 0, .int .u64 0]] wq fun e w' => e = .returned (.agg #[.int .u64 (Z0 : Int), .int .u64 (Z1 : Int)]) ∧ On u w') := HZ1.out u HO8.out
      have HLV : Hid (∀ wq, On u wq → Calls Tryd.prog 16 #[] wq fun e w' => e = .returned (.bool true) ∧ On u w') := fun wq h => (lives_any wq h.tab).mono fun e w' ⟨he, ho⟩ => ⟨he, h.trans ho⟩
      have h2e := eq2
      refine region_keep_tail (fun wq => On u wq) 41 (by kernel_rfl) (by kernel_rfl) (On.refl HO8.out.tab).drew ?_
      simp only [List.take_succ_cons, List.take_zero, List.drop_succ_cons, List.drop_zero]
      refine BigFrame.wpQuiet_want (by rfl) (fun K hK => ?_)
      refine ⟨?qv0, fun wq hwq => ?qy0, hK _ ?qr0⟩
      case qy0 => (go_simp; try with_reducible rfl)
      clear hK K
      try simp only [Act.put, List.setIfInBounds_toArray, List.set_cons_zero, List.set_cons_succ]
      refine BigFrame.wpQuiet_want (by rfl) (fun K hK => ?_)
      refine ⟨?qv1, fun wq hwq => ?qy1, hK _ ?qr1⟩
      case qy1 => (go_simp; try with_reducible rfl)
      clear hK K
      try simp only [Act.put, List.setIfInBounds_toArray, List.set_cons_zero, List.set_cons_succ]
      refine BigFrame.wpQuiet_want (by rfl) (fun K hK => ?_)
      refine ⟨.agg #[.int .u64 (z.a : Int), .int .u64 (z.b : Int)], fun wq hwq => ?qy2, hK _ ?qr2⟩
      case qy2 => (go_simp; go_at_call 21; exact HHS.out wq hwq)
      clear hK K
      try simp only [Act.put, List.setIfInBounds_toArray, List.set_cons_zero, List.set_cons_succ]
      refine BigFrame.wpQuiet_want (by rfl) (fun K hK => ?_)
      refine ⟨?qv3, fun wq hwq => ?qy3, hK _ ?qr3⟩
      case qy3 => (go_simp; try with_reducible rfl)
      clear hK K
      try simp only [Act.put, List.setIfInBounds_toArray, List.set_cons_zero, List.set_cons_succ]
      refine BigFrame.wpQuiet_want (by rfl) (fun K hK => ?_)
      refine ⟨?qv4, fun wq hwq => ?qy4, hK _ ?qr4⟩
      case qy4 => (obtain ⟨⟨s0, s1, s2, s3⟩, ⟨a0, a1⟩, ⟨b0, b1⟩, q0, q1, q2, q3⟩ := HK.out wq hwq; go_simp; try with_reducible rfl)
      clear hK K
      try simp only [Act.put, List.setIfInBounds_toArray, List.set_cons_zero, List.set_cons_succ]
      refine BigFrame.wpQuiet_want (by rfl) (fun K hK => ?_)
      refine ⟨?qv5, fun wq hwq => ?qy5, hK _ ?qr5⟩
      case qy5 => (go_simp; try with_reducible rfl)
      clear hK K
      try simp only [Act.put, List.setIfInBounds_toArray, List.set_cons_zero, List.set_cons_succ]
      refine BigFrame.wpQuiet_want (by rfl) (fun K hK => ?_)
      refine ⟨?qv6, fun wq hwq => ?qy6, hK _ ?qr6⟩
      case qy6 => (obtain ⟨⟨s0, s1, s2, s3⟩, ⟨a0, a1⟩, ⟨b0, b1⟩, q0, q1, q2, q3⟩ := HK.out wq hwq; go_simp; try with_reducible rfl)
      clear hK K
      try simp only [Act.put, List.setIfInBounds_toArray, List.set_cons_zero, List.set_cons_succ]
      refine BigFrame.wpQuiet_want (by rfl) (fun K hK => ?_)
      refine ⟨.agg #[.int .u64 (z.a : Int), .int .u64 (z.b : Int)], fun wq hwq => ?qy7, hK _ ?qr7⟩
      case qy7 => (go_simp; try rfl)
      clear hK K
      try simp only [Act.put, List.setIfInBounds_toArray, List.set_cons_zero, List.set_cons_succ]
      refine BigFrame.wpQuiet_want (by rfl) (fun K hK => ?_)
      refine ⟨.bool true, fun wq hwq => ?qy8, hK _ ?qr8⟩
      case qy8 => (go_simp; try simp)
      clear hK K
      try simp only [Act.put, List.setIfInBounds_toArray, List.set_cons_zero, List.set_cons_succ]
      refine BigFrame.wpQuiet_want (by rfl) (fun K hK => ?_)
      refine ⟨?qv9, fun wq hwq => ?qy9, hK _ ?qr9⟩
      case qy9 => (go_simp; try with_reducible rfl)
      clear hK K
      try simp only [Act.put, List.setIfInBounds_toArray, List.set_cons_zero, List.set_cons_succ]
      refine BigFrame.wpQuiet_want (by rfl) (fun K hK => ?_)
      refine ⟨?qv10, fun wq hwq => ?qy10, hK _ ?qr10⟩
      case qy10 => (go_simp; try with_reducible rfl)
      clear hK K
      try simp only [Act.put, List.setIfInBounds_toArray, List.set_cons_zero, List.set_cons_succ]
      refine BigFrame.wpQuiet_want (by rfl) (fun K hK => ?_)
      refine ⟨?qv11, fun wq hwq => ?qy11, hK _ ?qr11⟩
      case qy11 => (obtain ⟨⟨s0, s1, s2, s3⟩, ⟨a0, a1⟩, ⟨b0, b1⟩, q0, q1, q2, q3⟩ := HK.out wq hwq; go_simp; try with_reducible rfl)
      clear hK K
      try simp only [Act.put, List.setIfInBounds_toArray, List.set_cons_zero, List.set_cons_succ]
      refine BigFrame.wpQuiet_want (by rfl) (fun K hK => ?_)
      refine ⟨?qv12, fun wq hwq => ?qy12, hK _ ?qr12⟩
      case qy12 => (obtain ⟨⟨s0, s1, s2, s3⟩, ⟨a0, a1⟩, ⟨b0, b1⟩, q0, q1, q2, q3⟩ := HK.out wq hwq; go_simp; try with_reducible rfl)
      clear hK K
      try simp only [Act.put, List.setIfInBounds_toArray, List.set_cons_zero, List.set_cons_succ]
      refine BigFrame.wpQuiet_want (by rfl) (fun K hK => ?_)
      refine ⟨.agg #[.int .u64 (NA : Int), .int .u64 (NB : Int)], fun wq hwq => ?qy13, hK _ ?qr13⟩
      case qy13 => (go_simp; go_at_call 23; exact HND.out wq hwq)
      clear hK K
      try simp only [Act.put, List.setIfInBounds_toArray, List.set_cons_zero, List.set_cons_succ]
      refine BigFrame.wpQuiet_want (by rfl) (fun K hK => ?_)
      refine ⟨?qv14, fun wq hwq => ?qy14, hK _ ?qr14⟩
      case qy14 => (go_simp; try with_reducible rfl)
      clear hK K
      try simp only [Act.put, List.setIfInBounds_toArray, List.set_cons_zero, List.set_cons_succ]
      refine BigFrame.wpQuiet_want (by rfl) (fun K hK => ?_)
      refine ⟨?qv15, fun wq hwq => ?qy15, hK _ ?qr15⟩
      case qy15 => (go_simp; try with_reducible rfl)
      clear hK K
      try simp only [Act.put, List.setIfInBounds_toArray, List.set_cons_zero, List.set_cons_succ]
      refine BigFrame.wpQuiet_want (by rfl) (fun K hK => ?_)
      refine ⟨?qv16, fun wq hwq => ?qy16, hK _ ?qr16⟩
      case qy16 => (obtain ⟨⟨s0, s1, s2, s3⟩, ⟨a0, a1⟩, ⟨b0, b1⟩, q0, q1, q2, q3⟩ := HK.out wq hwq; go_simp; try with_reducible rfl)
      clear hK K
      try simp only [Act.put, List.setIfInBounds_toArray, List.set_cons_zero, List.set_cons_succ]
      refine BigFrame.wpQuiet_want (by rfl) (fun K hK => ?_)
      refine ⟨?qv17, fun wq hwq => ?qy17, hK _ ?qr17⟩
      case qy17 => (go_simp; try with_reducible rfl)
      clear hK K
      try simp only [Act.put, List.setIfInBounds_toArray, List.set_cons_zero, List.set_cons_succ]
      refine BigFrame.wpQuiet_want (by rfl) (fun K hK => ?_)
      refine ⟨?qv18, fun wq hwq => ?qy18, hK _ ?qr18⟩
      case qy18 => (obtain ⟨⟨s0, s1, s2, s3⟩, ⟨a0, a1⟩, ⟨b0, b1⟩, q0, q1, q2, q3⟩ := HK.out wq hwq; go_simp; try with_reducible rfl)
      clear hK K
      try simp only [Act.put, List.setIfInBounds_toArray, List.set_cons_zero, List.set_cons_succ]
      refine BigFrame.wpQuiet_want (by rfl) (fun K hK => ?_)
      refine ⟨.int .u64 (NA : Int), fun wq hwq => ?qy19, hK _ ?qr19⟩
      case qy19 => (go_simp; go_at_call 27; exact HAA.out wq hwq)
      clear hK K
      try simp only [Act.put, List.setIfInBounds_toArray, List.set_cons_zero, List.set_cons_succ]
      refine BigFrame.wpQuiet_want (by rfl) (fun K hK => ?_)
      refine ⟨?qv20, fun wq hwq => ?qy20, hK _ ?qr20⟩
      case qy20 => (go_simp; try with_reducible rfl)
      clear hK K
      try simp only [Act.put, List.setIfInBounds_toArray, List.set_cons_zero, List.set_cons_succ]
      refine BigFrame.wpQuiet_want (by rfl) (fun K hK => ?_)
      refine ⟨?qv21, fun wq hwq => ?qy21, hK _ ?qr21⟩
      case qy21 => (go_simp; try with_reducible rfl)
      clear hK K
      try simp only [Act.put, List.setIfInBounds_toArray, List.set_cons_zero, List.set_cons_succ]
      refine BigFrame.wpQuiet_want (by rfl) (fun K hK => ?_)
      refine ⟨?qv22, fun wq hwq => ?qy22, hK _ ?qr22⟩
      case qy22 => (obtain ⟨⟨s0, s1, s2, s3⟩, ⟨a0, a1⟩, ⟨b0, b1⟩, q0, q1, q2, q3⟩ := HK.out wq hwq; go_simp; try with_reducible rfl)
      clear hK K
      try simp only [Act.put, List.setIfInBounds_toArray, List.set_cons_zero, List.set_cons_succ]
      refine BigFrame.wpQuiet_want (by rfl) (fun K hK => ?_)
      refine ⟨?qv23, fun wq hwq => ?qy23, hK _ ?qr23⟩
      case qy23 => (go_simp; try with_reducible rfl)
      clear hK K
      try simp only [Act.put, List.setIfInBounds_toArray, List.set_cons_zero, List.set_cons_succ]
      refine BigFrame.wpQuiet_want (by rfl) (fun K hK => ?_)
      refine ⟨?qv24, fun wq hwq => ?qy24, hK _ ?qr24⟩
      case qy24 => (obtain ⟨⟨s0, s1, s2, s3⟩, ⟨a0, a1⟩, ⟨b0, b1⟩, q0, q1, q2, q3⟩ := HK.out wq hwq; go_simp; try with_reducible rfl)
      clear hK K
      try simp only [Act.put, List.setIfInBounds_toArray, List.set_cons_zero, List.set_cons_succ]
      refine BigFrame.wpQuiet_want (by rfl) (fun K hK => ?_)
      refine ⟨.int .u64 (NB : Int), fun wq hwq => ?qy25, hK _ ?qr25⟩
      case qy25 => (go_simp; go_at_call 27; exact HAB.out wq hwq)
      clear hK K
      try simp only [Act.put, List.setIfInBounds_toArray, List.set_cons_zero, List.set_cons_succ]
      refine BigFrame.wpQuiet_want (by rfl) (fun K hK => ?_)
      refine ⟨.agg #[.int .u64 (NA : Int), .int .u64 (NB : Int)], fun wq hwq => ?qy26, hK _ ?qr26⟩
      case qy26 => (go_simp; try rfl)
      clear hK K
      try simp only [Act.put, List.setIfInBounds_toArray, List.set_cons_zero, List.set_cons_succ]
      refine BigFrame.wpQuiet_want (by rfl) (fun K hK => ?_)
      refine ⟨.bool true, fun wq hwq => ?qy27, hK _ ?qr27⟩
      case qy27 => (go_simp; try simp)
      clear hK K
      try simp only [Act.put, List.setIfInBounds_toArray, List.set_cons_zero, List.set_cons_succ]
      refine BigFrame.wpQuiet_want (by rfl) (fun K hK => ?_)
      refine ⟨?qv28, fun wq hwq => ?qy28, hK _ ?qr28⟩
      case qy28 => (go_simp; try with_reducible rfl)
      clear hK K
      try simp only [Act.put, List.setIfInBounds_toArray, List.set_cons_zero, List.set_cons_succ]
      refine BigFrame.wpQuiet_want (by rfl) (fun K hK => ?_)
      refine ⟨?qv29, fun wq hwq => ?qy29, hK _ ?qr29⟩
      case qy29 => (go_simp; try with_reducible rfl)
      clear hK K
      try simp only [Act.put, List.setIfInBounds_toArray, List.set_cons_zero, List.set_cons_succ]
      refine BigFrame.wpQuiet_want (by rfl) (fun K hK => ?_)
      refine ⟨?qv30, fun wq hwq => ?qy30, hK _ ?qr30⟩
      case qy30 => (go_simp; try with_reducible rfl)
      clear hK K
      try simp only [Act.put, List.setIfInBounds_toArray, List.set_cons_zero, List.set_cons_succ]
      refine BigFrame.wpQuiet_want (by rfl) (fun K hK => ?_)
      refine ⟨.agg #[.int .u64 (Z0 : Int), .int .u64 (Z1 : Int)], fun wq hwq => ?qy31, hK _ ?qr31⟩
      case qy31 => (go_simp; go_at_call 21; exact HH0.out wq hwq)
      clear hK K
      try simp only [Act.put, List.setIfInBounds_toArray, List.set_cons_zero, List.set_cons_succ]
      refine BigFrame.wpQuiet_want (by rfl) (fun K hK => ?_)
      refine ⟨?qv32, fun wq hwq => ?qy32, hK _ ?qr32⟩
      case qy32 => (go_simp; try with_reducible rfl)
      clear hK K
      try simp only [Act.put, List.setIfInBounds_toArray, List.set_cons_zero, List.set_cons_succ]
      refine BigFrame.wpQuiet_want (by rfl) (fun K hK => ?_)
      refine ⟨.agg #[.int .u64 0, .int .u64 0], fun wq hwq => ?qy33, hK _ ?qr33⟩
      case qy33 => (go_simp; try rfl)
      clear hK K
      try simp only [Act.put, List.setIfInBounds_toArray, List.set_cons_zero, List.set_cons_succ]
      refine BigFrame.wpQuiet_want (by rfl) (fun K hK => ?_)
      refine ⟨.agg #[.int .u64 0, .int .u64 0], fun wq hwq => ?qy34, hK _ ?qr34⟩
      case qy34 => (go_simp; try rfl)
      clear hK K
      try simp only [Act.put, List.setIfInBounds_toArray, List.set_cons_zero, List.set_cons_succ]
      refine BigFrame.wpQuiet_want (by rfl) (fun K hK => ?_)
      refine ⟨.agg #[.int .u64 (Z0 : Int), .int .u64 (Z1 : Int)], fun wq hwq => ?qy35, hK _ ?qr35⟩
      case qy35 => (go_simp; go_at_call 23; exact HN0.out wq hwq)
      clear hK K
      try simp only [Act.put, List.setIfInBounds_toArray, List.set_cons_zero, List.set_cons_succ]
      refine BigFrame.wpQuiet_want (by rfl) (fun K hK => ?_)
      refine ⟨.bool true, fun wq hwq => ?qy36, hK _ ?qr36⟩
      case qy36 => (go_simp; try simp)
      clear hK K
      try simp only [Act.put, List.setIfInBounds_toArray, List.set_cons_zero, List.set_cons_succ]
      refine BigFrame.wpQuiet_want (by rfl) (fun K hK => ?_)
      refine ⟨?qv37, fun wq hwq => ?qy37, hK _ ?qr37⟩
      case qy37 => (go_simp; try with_reducible rfl)
      clear hK K
      try simp only [Act.put, List.setIfInBounds_toArray, List.set_cons_zero, List.set_cons_succ]
      refine BigFrame.wpQuiet_want (by rfl) (fun K hK => ?_)
      refine ⟨?qv38, fun wq hwq => ?qy38, hK _ ?qr38⟩
      case qy38 => (go_simp; try with_reducible rfl)
      clear hK K
      try simp only [Act.put, List.setIfInBounds_toArray, List.set_cons_zero, List.set_cons_succ]
      refine BigFrame.wpQuiet_want (by rfl) (fun K hK => ?_)
      refine ⟨.bool true, fun wq hwq => ?qy39, hK _ ?qr39⟩
      case qy39 => (go_simp; go_at_call 16; exact HLV.out wq hwq)
      clear hK K
      try simp only [Act.put, List.setIfInBounds_toArray, List.set_cons_zero, List.set_cons_succ]
      refine BigFrame.wpQuiet_want (by rfl) (fun K hK => ?_)
      refine ⟨?qv40, fun wq hwq => ?qy40, hK _ ?qr40⟩
      case qy40 => (go_simp; try with_reducible rfl)
      clear hK K
      try simp only [Act.put, List.setIfInBounds_toArray, List.set_cons_zero, List.set_cons_succ]
      refine wpQuiet_nil ?_
      intro wz HOz
      have HOz := Lib.hid HOz
      go_wp2
      go_ret
      exact ⟨rfl, HO8.out.trans HOz.out⟩
  · clear h3 hN2
    rcases Nat.eq_zero_or_pos m with h0 | h0
    · replace HPZ := Lib.hid (HPZ.out h0)
      have hm0 : ((m : Int) == 0) = true := by simp; omega
      have l2 : ¬ (0 : Int) < (m : Int) := by omega
      clear HZT HRT HLN HTH h0
      go_enter Tryd.func10, Tryd.ntmps10
      go_upto_region 1 with fail
      rw [← HW.out]
      go_wp2_with fail
      refine HA0.out.mono ?_
      rintro e w1 ⟨rfl, rfl⟩
      have HS1 := Lib.hid (blk_new4 u 0 0 X 0 23)
      have HO1 : Hid (On u (u.alloc (.cells #[.int .u64 0, .int .u64 0, .int .u64 (X : Int), .int .u64 0] 23))) := (On.refl HB.out.2.2.tab).alloc _
      rw [HSZ.out] at HS1
      go_upto_region 4 with fail
      rw [HSZ.out]
      generalize hw2 : u.alloc (.cells #[.int .u64 0, .int .u64 0, .int .u64 (X : Int), .int .u64 0] 23) = w2 at *
      clear hw2
      have HD12 := Lib.hid (HB.out.1.on HO1.out)
      have HD22 := Lib.hid (HB.out.2.1.on HO1.out)
      have HO2 := Lib.hid (HB.out.2.2.trans HO1.out)
      clear HO1 HB
      have c0 : w2.cell? ⟨w.heap.size + 1 + 1, 0, none⟩ = some (.int .u64 0) := HS1.out.at4 0 (by omega)
      have c1 : w2.cell? ⟨w.heap.size + 1 + 1, 1, none⟩ = some (.int .u64 0) := HS1.out.at4 1 (by omega)
      have c2 : w2.cell? ⟨w.heap.size + 1 + 1, 2, none⟩ = some (.int .u64 (X : Int)) := HS1.out.at4 2 (by omega)
      have c3 : w2.cell? ⟨w.heap.size + 1 + 1, 3, none⟩ = some (.int .u64 0) := HS1.out.at4 3 (by omega)
      have HC := Lib.hid (HPZ.out w2 HO2.out)
      go_wp2_with fail
      with_reducible refine HC.out.mono ?_
      rintro e w5 ⟨rfl, hO5⟩
      have HS5 : Hid (Blk (w.heap.size + 1 + 1) w5 (fl4 (ix ⟨0, 0, X, 0⟩))) := HS1.out.on hO5
      have HD5 := Lib.hid (HD12.out.on hO5)
      have HE5 := Lib.hid (HD22.out.on hO5)
      have HO5 := Lib.hid (HO2.out.trans hO5)
      clear hO5 HC c0 c1 c2 c3 HS1 HD12 HD22 HO2
      obtain ⟨y0, y1, y2, y3⟩ := HS5.out.cells4
      obtain ⟨g0, g1, g2, g3⟩ := HS5.out.free4
      have HS6 := Lib.hid (HS5.out.store4 z)
      have HD6 := Lib.hid (HD5.out.other4 (C := w.heap.size + 1 + 1) (by omega) (.int .u64 (z.a : Int)) (.int .u64 (z.b : Int)) (.int .u64 (z.c : Int)) (.int .u64 (z.d : Int)))
      have HE6 := Lib.hid (HE5.out.other4 (C := w.heap.size + 1 + 1) (by omega) (.int .u64 (z.a : Int)) (.int .u64 (z.b : Int)) (.int .u64 (z.c : Int)) (.int .u64 (z.d : Int)))
      have HO6 := Lib.hid (HO5.out.store4 (C := w.heap.size + 1 + 1) (by omega) (.int .u64 (z.a : Int)) (.int .u64 (z.b : Int)) (.int .u64 (z.c : Int)) (.int .u64 (z.d : Int)))
      go_wp2_with fail
      generalize hw6 : (((w5.setCell ⟨w.heap.size + 1 + 1, 0, none⟩ (.int .u64 (z.a : Int))).setCell ⟨w.heap.size + 1 + 1, 1, none⟩ (.int .u64 (z.b : Int))).setCell ⟨w.heap.size + 1 + 1, 2, none⟩ (.int .u64 (z.c : Int))).setCell ⟨w.heap.size + 1 + 1, 3, none⟩ (.int .u64 (z.d : Int)) = w6 at *
      clear hw6 HS5 HD5 HE5 HO5 y0 y1 y2 y3 g0 g1 g2 g3
      go_loopw [11] (fun vi wr => vi = .int .i64 0 ∧ Hid (Blk (w.heap.size + 1 + 1) wr (fl4 (ix z))) ∧ Hid (Blk w.heap.size wr [a, b]) ∧ Hid (Blk (w.heap.size + 1) wr [c, d]) ∧ Hid (On w wr)) (fun vi _ => 0)
      case atStart => exact ⟨rfl, HS6, HD6, HE6, HO6⟩
      case round =>
        clear HS6 HD6 HE6 HO6
        obtain ⟨rfl, HS, HD1, HD2, HO⟩ := hrel
        obtain ⟨a0, a1⟩ := HD1.out.cells2
        obtain ⟨b0, b1⟩ := HD2.out.cells2
        have HPC := Lib.hid (HPQ.out wr HO.out)
        go_wp2_with fail
        with_reducible refine HPC.out.mono ?_
        rintro e w7 ⟨rfl, hO7⟩
        have HS7 := Lib.hid (HS.out.on hO7)
        have HD7 := Lib.hid (HD1.out.on hO7)
        have HE7 := Lib.hid (HD2.out.on hO7)
        have HO7 := Lib.hid (HO.out.trans hO7)
        have HQ8 := Lib.hid (blk_new4 w7 q.a q.b q.c q.d 23)
        have HO78 : Hid (On w7 (w7.alloc (.cells #[.int .u64 (q.a : Int), .int .u64 (q.b : Int), .int .u64 (q.c : Int), .int .u64 (q.d : Int)] 23))) := (On.refl HO7.out.tab).alloc _
        clear hO7 HS HD1 HD2 HO a0 a1 b0 b1 HPC
        go_upto_region 13 with fail
        generalize hw8 : w7.alloc (.cells #[.int .u64 (q.a : Int), .int .u64 (q.b : Int), .int .u64 (q.c : Int), .int .u64 (q.d : Int)] 23) = u at *
        clear hw8
        have HS8 := Lib.hid (HS7.out.on HO78.out)
        have HD8 := Lib.hid (HD7.out.on HO78.out)
        have HE8 := Lib.hid (HE7.out.on HO78.out)
        have HO8 := Lib.hid (HO7.out.trans HO78.out)
        clear HS7 HD7 HE7 HO7 HO78
        generalize w7.heap.size = QB at *
        have HK : Hid (∀ wq, On u wq → _) := fun wq hq => And.intro (HS8.out.on hq).cells4 (And.intro (HD8.out.on hq).cells2 (And.intro (HE8.out.on hq).cells2 (HQ8.out.on hq).cells4))
        have HHS : Hid (∀ wq, On u wq → Calls Tryd.prog 21 #[.int .i64 (F : Int), .slice (some ad) m cap] wq fun e w' => e = .returned (.agg #[.int .u64 (z.a : Int), .int .u64 (z.b : Int)]) ∧ On u w') := fun wq h => HHZ.out u HO8.out wq h
        have HND : Hid (∀ wq, On u wq → Calls Tryd.prog 23 #[.int .i64 (F : Int), .agg #[.int .u64 (a : Int), .int .u64 (b : Int)], .agg #[.int .u64 (c : Int), .int .u64 (d : Int)]] wq fun e w' => e = .returned (.agg #[.int .u64 (NA : Int), .int .u64 (NB : Int)]) ∧ On u w') := HNZ.out u HO8.out
        have HAA : Hid (∀ wq, On u wq → Calls Tryd.prog 27 #[.int .i64 (F : Int), .int .u64 (q.a : Int), .int .u64 (a : Int)] wq fun e w' => e = .returned (.int .u64 (NA : Int)) ∧ On u w') := HA1.out u HO8.out
        have HAB : Hid (∀ wq, On u wq → Calls Tryd.prog 27 #[.int .i64 (F : Int), .int .u64 (q.b : Int), .int .u64 (b : Int)] wq fun e w' => e = .returned (.int .u64 (NB : Int)) ∧ On u w') := HA2.out u HO8.out
        have HH0 : Hid (∀ wq, On u wq → Calls Tryd.prog 21 #[.int .i64 (F : Int), .slice none 0 0] wq fun e w' => e = .returned (.agg #[.int .u64 (Z0 : Int), .int .u64 (Z1 : Int)]) ∧ On u w') := HZ0.out u HO8.out
        have HN0 : Hid (∀ wq, On u wq → Calls Tryd.prog 23 #[.int .i64 (F : Int), .agg #[.int .u64 0, .int .u64 0], .agg #[.int .u64 0, .int .u64 0]] wq fun e w' => e = .returned (.agg #[.int .u64 (Z0 : Int), .int .u64 (Z1 : Int)]) ∧ On u w') := HZ1.out u HO8.out
        have HLV : Hid (∀ wq, On u wq → Calls Tryd.prog 16 #[] wq fun e w' => e = .returned (.bool true) ∧ On u w') := fun wq h => (lives_any wq h.tab).mono fun e w' ⟨he, ho⟩ => ⟨he, h.trans ho⟩
        have h2e := eq2
        refine region_keep_tail (fun wq => On u wq) 41 (by kernel_rfl) (by kernel_rfl) (On.refl HO8.out.tab).drew ?_
        simp only [List.take_succ_cons, List.take_zero, List.drop_succ_cons, List.drop_zero]
        refine BigFrame.wpQuiet_want (by rfl) (fun K hK => ?_)
        refine ⟨?pv0, fun wq hwq => ?py0, hK _ ?pr0⟩
        case py0 => (go_simp; try with_reducible rfl)
        clear hK K
        try simp only [Act.put, List.setIfInBounds_toArray, List.set_cons_zero, List.set_cons_succ]
        refine BigFrame.wpQuiet_want (by rfl) (fun K hK => ?_)
        refine ⟨?pv1, fun wq hwq => ?py1, hK _ ?pr1⟩
        case py1 => (go_simp; try with_reducible rfl)
        clear hK K
        try simp only [Act.put, List.setIfInBounds_toArray, List.set_cons_zero, List.set_cons_succ]
        refine BigFrame.wpQuiet_want (by rfl) (fun K hK => ?_)
        refine ⟨.agg #[.int .u64 (z.a : Int), .int .u64 (z.b : Int)], fun wq hwq => ?py2, hK _ ?pr2⟩
        case py2 => (go_simp; go_at_call 21; exact HHS.out wq hwq)
        clear hK K
        try simp only [Act.put, List.setIfInBounds_toArray, List.set_cons_zero, List.set_cons_succ]
        refine BigFrame.wpQuiet_want (by rfl) (fun K hK => ?_)
        refine ⟨?pv3, fun wq hwq => ?py3, hK _ ?pr3⟩
        case py3 => (go_simp; try with_reducible rfl)
        clear hK K
        try simp only [Act.put, List.setIfInBounds_toArray, List.set_cons_zero, List.set_cons_succ]
        refine BigFrame.wpQuiet_want (by rfl) (fun K hK => ?_)
        refine ⟨?pv4, fun wq hwq => ?py4, hK _ ?pr4⟩
        case py4 => (obtain ⟨⟨s0, s1, s2, s3⟩, ⟨a0, a1⟩, ⟨b0, b1⟩, q0, q1, q2, q3⟩ := HK.out wq hwq; go_simp; try with_reducible rfl)
        clear hK K
        try simp only [Act.put, List.setIfInBounds_toArray, List.set_cons_zero, List.set_cons_succ]
        refine BigFrame.wpQuiet_want (by rfl) (fun K hK => ?_)
        refine ⟨?pv5, fun wq hwq => ?py5, hK _ ?pr5⟩
        case py5 => (go_simp; try with_reducible rfl)
        clear hK K
        try simp only [Act.put, List.setIfInBounds_toArray, List.set_cons_zero, List.set_cons_succ]
        refine BigFrame.wpQuiet_want (by rfl) (fun K hK => ?_)
        refine ⟨?pv6, fun wq hwq => ?py6, hK _ ?pr6⟩
        case py6 => (obtain ⟨⟨s0, s1, s2, s3⟩, ⟨a0, a1⟩, ⟨b0, b1⟩, q0, q1, q2, q3⟩ := HK.out wq hwq; go_simp; try with_reducible rfl)
        clear hK K
        try simp only [Act.put, List.setIfInBounds_toArray, List.set_cons_zero, List.set_cons_succ]
        refine BigFrame.wpQuiet_want (by rfl) (fun K hK => ?_)
        refine ⟨.agg #[.int .u64 (z.a : Int), .int .u64 (z.b : Int)], fun wq hwq => ?py7, hK _ ?pr7⟩
        case py7 => (go_simp; try rfl)
        clear hK K
        try simp only [Act.put, List.setIfInBounds_toArray, List.set_cons_zero, List.set_cons_succ]
        refine BigFrame.wpQuiet_want (by rfl) (fun K hK => ?_)
        refine ⟨.bool true, fun wq hwq => ?py8, hK _ ?pr8⟩
        case py8 => (go_simp; try simp)
        clear hK K
        try simp only [Act.put, List.setIfInBounds_toArray, List.set_cons_zero, List.set_cons_succ]
        refine BigFrame.wpQuiet_want (by rfl) (fun K hK => ?_)
        refine ⟨?pv9, fun wq hwq => ?py9, hK _ ?pr9⟩
        case py9 => (go_simp; try with_reducible rfl)
        clear hK K
        try simp only [Act.put, List.setIfInBounds_toArray, List.set_cons_zero, List.set_cons_succ]
        refine BigFrame.wpQuiet_want (by rfl) (fun K hK => ?_)
        refine ⟨?pv10, fun wq hwq => ?py10, hK _ ?pr10⟩
        case py10 => (go_simp; try with_reducible rfl)
        clear hK K
        try simp only [Act.put, List.setIfInBounds_toArray, List.set_cons_zero, List.set_cons_succ]
        refine BigFrame.wpQuiet_want (by rfl) (fun K hK => ?_)
        refine ⟨?pv11, fun wq hwq => ?py11, hK _ ?pr11⟩
        case py11 => (obtain ⟨⟨s0, s1, s2, s3⟩, ⟨a0, a1⟩, ⟨b0, b1⟩, q0, q1, q2, q3⟩ := HK.out wq hwq; go_simp; try with_reducible rfl)
        clear hK K
        try simp only [Act.put, List.setIfInBounds_toArray, List.set_cons_zero, List.set_cons_succ]
        refine BigFrame.wpQuiet_want (by rfl) (fun K hK => ?_)
        refine ⟨?pv12, fun wq hwq => ?py12, hK _ ?pr12⟩
        case py12 => (obtain ⟨⟨s0, s1, s2, s3⟩, ⟨a0, a1⟩, ⟨b0, b1⟩, q0, q1, q2, q3⟩ := HK.out wq hwq; go_simp; try with_reducible rfl)
        clear hK K
        try simp only [Act.put, List.setIfInBounds_toArray, List.set_cons_zero, List.set_cons_succ]
        refine BigFrame.wpQuiet_want (by rfl) (fun K hK => ?_)
        refine ⟨.agg #[.int .u64 (NA : Int), .int .u64 (NB : Int)], fun wq hwq => ?py13, hK _ ?pr13⟩
        case py13 => (go_simp; go_at_call 23; exact HND.out wq hwq)
        clear hK K
        try simp only [Act.put, List.setIfInBounds_toArray, List.set_cons_zero, List.set_cons_succ]
        refine BigFrame.wpQuiet_want (by rfl) (fun K hK => ?_)
        refine ⟨?pv14, fun wq hwq => ?py14, hK _ ?pr14⟩
        case py14 => (go_simp; try with_reducible rfl)
        clear hK K
        try simp only [Act.put, List.setIfInBounds_toArray, List.set_cons_zero, List.set_cons_succ]
        refine BigFrame.wpQuiet_want (by rfl) (fun K hK => ?_)
        refine ⟨?pv15, fun wq hwq => ?py15, hK _ ?pr15⟩
        case py15 => (go_simp; try with_reducible rfl)
        clear hK K
        try simp only [Act.put, List.setIfInBounds_toArray, List.set_cons_zero, List.set_cons_succ]
        refine BigFrame.wpQuiet_want (by rfl) (fun K hK => ?_)
        refine ⟨?pv16, fun wq hwq => ?py16, hK _ ?pr16⟩
        case py16 => (obtain ⟨⟨s0, s1, s2, s3⟩, ⟨a0, a1⟩, ⟨b0, b1⟩, q0, q1, q2, q3⟩ := HK.out wq hwq; go_simp; try with_reducible rfl)
        clear hK K
        try simp only [Act.put, List.setIfInBounds_toArray, List.set_cons_zero, List.set_cons_succ]
        refine BigFrame.wpQuiet_want (by rfl) (fun K hK => ?_)
        refine ⟨?pv17, fun wq hwq => ?py17, hK _ ?pr17⟩
        case py17 => (go_simp; try with_reducible rfl)
        clear hK K
        try simp only [Act.put, List.setIfInBounds_toArray, List.set_cons_zero, List.set_cons_succ]
        refine BigFrame.wpQuiet_want (by rfl) (fun K hK => ?_)
        refine ⟨?pv18, fun wq hwq => ?py18, hK _ ?pr18⟩
        case py18 => (obtain ⟨⟨s0, s1, s2, s3⟩, ⟨a0, a1⟩, ⟨b0, b1⟩, q0, q1, q2, q3⟩ := HK.out wq hwq; go_simp; try with_reducible rfl)
        clear hK K
        try simp only [Act.put, List.setIfInBounds_toArray, List.set_cons_zero, List.set_cons_succ]
        refine BigFrame.wpQuiet_want (by rfl) (fun K hK => ?_)
        refine ⟨.int .u64 (NA : Int), fun wq hwq => ?py19, hK _ ?pr19⟩
        case py19 => (go_simp; go_at_call 27; exact HAA.out wq hwq)
        clear hK K
        try simp only [Act.put, List.setIfInBounds_toArray, List.set_cons_zero, List.set_cons_succ]
        refine BigFrame.wpQuiet_want (by rfl) (fun K hK => ?_)
        refine ⟨?pv20, fun wq hwq => ?py20, hK _ ?pr20⟩
        case py20 => (go_simp; try with_reducible rfl)
        clear hK K
        try simp only [Act.put, List.setIfInBounds_toArray, List.set_cons_zero, List.set_cons_succ]
        refine BigFrame.wpQuiet_want (by rfl) (fun K hK => ?_)
        refine ⟨?pv21, fun wq hwq => ?py21, hK _ ?pr21⟩
        case py21 => (go_simp; try with_reducible rfl)
        clear hK K
        try simp only [Act.put, List.setIfInBounds_toArray, List.set_cons_zero, List.set_cons_succ]
        refine BigFrame.wpQuiet_want (by rfl) (fun K hK => ?_)
        refine ⟨?pv22, fun wq hwq => ?py22, hK _ ?pr22⟩
        case py22 => (obtain ⟨⟨s0, s1, s2, s3⟩, ⟨a0, a1⟩, ⟨b0, b1⟩, q0, q1, q2, q3⟩ := HK.out wq hwq; go_simp; try with_reducible rfl)
        clear hK K
        try simp only [Act.put, List.setIfInBounds_toArray, List.set_cons_zero, List.set_cons_succ]
        refine BigFrame.wpQuiet_want (by rfl) (fun K hK => ?_)
        refine ⟨?pv23, fun wq hwq => ?py23, hK _ ?pr23⟩
        case py23 => (go_simp; try with_reducible rfl)
        clear hK K
        try simp only [Act.put, List.setIfInBounds_toArray, List.set_cons_zero, List.set_cons_succ]
        refine BigFrame.wpQuiet_want (by rfl) (fun K hK => ?_)
        refine ⟨?pv24, fun wq hwq => ?py24, hK _ ?pr24⟩
        case py24 => (obtain ⟨⟨s0, s1, s2, s3⟩, ⟨a0, a1⟩, ⟨b0, b1⟩, q0, q1, q2, q3⟩ := HK.out wq hwq; go_simp; try with_reducible rfl)
        clear hK K
        try simp only [Act.put, List.setIfInBounds_toArray, List.set_cons_zero, List.set_cons_succ]
        refine BigFrame.wpQuiet_want (by rfl) (fun K hK => ?_)
        refine ⟨.int .u64 (NB : Int), fun wq hwq => ?py25, hK _ ?pr25⟩
        case py25 => (go_simp; go_at_call 27; exact HAB.out wq hwq)
        clear hK K
        try simp only [Act.put, List.setIfInBounds_toArray, List.set_cons_zero, List.set_cons_succ]
        refine BigFrame.wpQuiet_want (by rfl) (fun K hK => ?_)
        refine ⟨.agg #[.int .u64 (NA : Int), .int .u64 (NB : Int)], fun wq hwq => ?py26, hK _ ?pr26⟩
        case py26 => (go_simp; try rfl)
        clear hK K
        try simp only [Act.put, List.setIfInBounds_toArray, List.set_cons_zero, List.set_cons_succ]
        refine BigFrame.wpQuiet_want (by rfl) (fun K hK => ?_)
        refine ⟨.bool true, fun wq hwq => ?py27, hK _ ?pr27⟩
        case py27 => (go_simp; try simp)
        clear hK K
        try simp only [Act.put, List.setIfInBounds_toArray, List.set_cons_zero, List.set_cons_succ]
        refine BigFrame.wpQuiet_want (by rfl) (fun K hK => ?_)
        refine ⟨?pv28, fun wq hwq => ?py28, hK _ ?pr28⟩
        case py28 => (go_simp; try with_reducible rfl)
        clear hK K
        try simp only [Act.put, List.setIfInBounds_toArray, List.set_cons_zero, List.set_cons_succ]
        refine BigFrame.wpQuiet_want (by rfl) (fun K hK => ?_)
        refine ⟨?pv29, fun wq hwq => ?py29, hK _ ?pr29⟩
        case py29 => (go_simp; try with_reducible rfl)
        clear hK K
        try simp only [Act.put, List.setIfInBounds_toArray, List.set_cons_zero, List.set_cons_succ]
        refine BigFrame.wpQuiet_want (by rfl) (fun K hK => ?_)
        refine ⟨?pv30, fun wq hwq => ?py30, hK _ ?pr30⟩
        case py30 => (go_simp; try with_reducible rfl)
        clear hK K
        try simp only [Act.put, List.setIfInBounds_toArray, List.set_cons_zero, List.set_cons_succ]
        refine BigFrame.wpQuiet_want (by rfl) (fun K hK => ?_)
        refine ⟨.agg #[.int .u64 (Z0 : Int), .int .u64 (Z1 : Int)], fun wq hwq => ?py31, hK _ ?pr31⟩
        case py31 => (go_simp; go_at_call 21; exact HH0.out wq hwq)
        clear hK K
        try simp only [Act.put, List.setIfInBounds_toArray, List.set_cons_zero, List.set_cons_succ]
        refine BigFrame.wpQuiet_want (by rfl) (fun K hK => ?_)
        refine ⟨?pv32, fun wq hwq => ?py32, hK _ ?pr32⟩
        case py32 => (go_simp; try with_reducible rfl)
        clear hK K
        try simp only [Act.put, List.setIfInBounds_toArray, List.set_cons_zero, List.set_cons_succ]
        refine BigFrame.wpQuiet_want (by rfl) (fun K hK => ?_)
        refine ⟨.agg #[.int .u64 0, .int .u64 0], fun wq hwq => ?py33, hK _ ?pr33⟩
        case py33 => (go_simp; try rfl)
        clear hK K
        try simp only [Act.put, List.setIfInBounds_toArray, List.set_cons_zero, List.set_cons_succ]
        refine BigFrame.wpQuiet_want (by rfl) (fun K hK => ?_)
        refine ⟨.agg #[.int .u64 0, .int .u64 0], fun wq hwq => ?py34, hK _ ?pr34⟩
        case py34 => (go_simp; try rfl)
        clear hK K
        try simp only [Act.put, List.setIfInBounds_toArray, List.set_cons_zero, List.set_cons_succ]
        refine BigFrame.wpQuiet_want (by rfl) (fun K hK => ?_)
        refine ⟨.agg #[.int .u64 (Z0 : Int), .int .u64 (Z1 : Int)], fun wq hwq => ?py35, hK _ ?pr35⟩
        case py35 => (go_simp; go_at_call 23; exact HN0.out wq hwq)
        clear hK K
        try simp only [Act.put, List.setIfInBounds_toArray, List.set_cons_zero, List.set_cons_succ]
        refine BigFrame.wpQuiet_want (by rfl) (fun K hK => ?_)
        refine ⟨.bool true, fun wq hwq => ?py36, hK _ ?pr36⟩
        case py36 => (go_simp; try simp)
        clear hK K
        try simp only [Act.put, List.setIfInBounds_toArray, List.set_cons_zero, List.set_cons_succ]
        refine BigFrame.wpQuiet_want (by rfl) (fun K hK => ?_)
        refine ⟨?pv37, fun wq hwq => ?py37, hK _ ?pr37⟩
        case py37 => (go_simp; try with_reducible rfl)
        clear hK K
        try simp only [Act.put, List.setIfInBounds_toArray, List.set_cons_zero, List.set_cons_succ]
        refine BigFrame.wpQuiet_want (by rfl) (fun K hK => ?_)
        refine ⟨?pv38, fun wq hwq => ?py38, hK _ ?pr38⟩
        case py38 => (go_simp; try with_reducible rfl)
        clear hK K
        try simp only [Act.put, List.setIfInBounds_toArray, List.set_cons_zero, List.set_cons_succ]
        refine BigFrame.wpQuiet_want (by rfl) (fun K hK => ?_)
        refine ⟨.bool true, fun wq hwq => ?py39, hK _ ?pr39⟩
        case py39 => (go_simp; go_at_call 16; exact HLV.out wq hwq)
        clear hK K
        try simp only [Act.put, List.setIfInBounds_toArray, List.set_cons_zero, List.set_cons_succ]
        refine BigFrame.wpQuiet_want (by rfl) (fun K hK => ?_)
        refine ⟨?pv40, fun wq hwq => ?py40, hK _ ?pr40⟩
        case py40 => (go_simp; try with_reducible rfl)
        clear hK K
        try simp only [Act.put, List.setIfInBounds_toArray, List.set_cons_zero, List.set_cons_succ]
        refine wpQuiet_nil ?_
        intro wz HOz
        have HOz := Lib.hid HOz
        go_wp2
        go_ret
        exact ⟨rfl, HO8.out.trans HOz.out⟩
    · obtain ⟨B, off, spot⟩ := ad
      obtain rfl : spot = none := by
        obtain ⟨_, _, ⟨hx, _⟩ | ⟨b', off', cap', hv', _⟩⟩ := HRT.out
        · have := HLN.out; rw [hx] at this; simp at this; omega
        · simp only [Value.slice.injEq, Option.some.injEq, Addr.mk.injEq] at hv'; exact hv'.1.2.2
      replace HZT := Lib.hid (HZT.out h0)
      obtain ⟨T, hTT⟩ : ∃ T, T = stpS (F : Int) L m := ⟨_, rfl⟩
      have HT0 : Hid (T 0 = ⟨0, 0, X, 0⟩) := by refine Lib.hid ?_; rw [hTT]; exact HTH.out
      have HE : Hid (∀ k, Els (F : Int) (T k)) := fun k => by rw [hTT]; exact stpS_els _ _ _ hp k
      have HTN : Hid (∀ i, T (i + 1) = if i % 2 = 1 ∨ i + 1 = m then permS (F : Int) (inS (F : Int) L (T i) i) else inS (F : Int) L (T i) i) := fun i => by rw [hTT]; rfl
      rw [← hTT] at HZT
      have HXL : Hid (∀ i, L.getD i 0 ≤ 18446744073709551615) := fun i => HRT.out.le i
      clear hTT HTH HPZ
      go_enter Tryd.func10, Tryd.ntmps10
      go_upto_region 1 with fail
      rw [← HW.out]
      go_wp2_with fail
      refine HA0.out.mono ?_
      rintro e w1 ⟨rfl, rfl⟩
      have HS1 := Lib.hid (blk_new4 u 0 0 X 0 23)
      have HO1 : Hid (On u (u.alloc (.cells #[.int .u64 0, .int .u64 0, .int .u64 (X : Int), .int .u64 0] 23))) := (On.refl HB.out.2.2.tab).alloc _
      rw [HSZ.out] at HS1
      go_upto_region 4 with fail
      rw [HSZ.out]
      generalize hw2 : u.alloc (.cells #[.int .u64 0, .int .u64 0, .int .u64 (X : Int), .int .u64 0] 23) = w2 at *
      clear hw2
      have HD12 := Lib.hid (HB.out.1.on HO1.out)
      have HD22 := Lib.hid (HB.out.2.1.on HO1.out)
      have HO2 := Lib.hid (HB.out.2.2.trans HO1.out)
      clear HO1 HB
      have hm0 : ((m : Int) == 0) = false := by simp; omega
      have HS2 : Hid (Blk (w.heap.size + 1 + 1) w2 (fl4 (ix (T 0)))) := by refine Lib.hid ?_; rw [HT0.out]; exact HS1.out
      clear HS1
      go_wp2_with fail
      go_loopw [11] (fun vi wr => ∃ i : Nat, i ≤ m ∧ vi = .int .i64 (i : Int) ∧ Hid (Blk (w.heap.size + 1 + 1) wr (fl4 (ix (T i)))) ∧ Hid (Blk w.heap.size wr [a, b]) ∧ Hid (Blk (w.heap.size + 1) wr [c, d]) ∧ Hid (On w wr)) (fun vi _ => m - (intOf vi).toNat)
      case atStart => exact ⟨0, Nat.zero_le _, rfl, HS2, HD12, HD22, HO2⟩
      case round =>
        clear HS2 HD12 HD22 HO2
        obtain ⟨i, hi, rfl, HS, HD1, HD2, HO⟩ := hrel
        by_cases hlt : i < m
        · have hx := HXL.out i
          have hcl : wr.cell? ⟨B, off + i, none⟩ = some (.int .u64 ((L.getD i 0 : Nat) : Int)) := (HRT.out.on HO.out).at i (by have := HLN.out; omega)
          have HNX := Lib.hid (HTN.out i)
          have hels := HE.out i
          obtain ⟨nx, hnx⟩ : ∃ nx, nx = T (i + 1) := ⟨_, rfl⟩
          have HKX : Hid (T (i + 1) = nx) := hnx.symm
          rw [← hnx] at HNX
          clear hnx
          obtain ⟨x, hxx⟩ : ∃ x, L.getD i 0 = x := ⟨_, rfl⟩
          rw [hxx] at hx hcl
          have HXX := Lib.hid hxx
          clear hxx
          generalize T i = st at *
          obtain ⟨he1, he2, he3, he4⟩ := hels
          have l0 : (0 : Int) ≤ (i : Int) := by omega
          have l1 : (i : Int) < (m : Int) := by omega
          have hq2 : i % 2 = 0 ∨ i % 2 = 1 := by omega
          rcases hq2 with hq | hq
          · have hj1 : (i : Int).tmod 2 = 0 := by rw [Int.tmod_eq_emod_of_nonneg (by omega)]; omega
            have HA9 := Lib.hid (fun n => add_any (F : Int) st.a x (wr.drewN n) HO.out.tab (by omega) hx)
            have hUl := addF_le (F : Int) st.a x
            obtain ⟨U, hU⟩ : ∃ U, U = addF (F : Int) st.a x := ⟨_, rfl⟩
            rw [← hU] at HA9 hUl
            have HU : Hid ((st.a + x) % pOf (F : Int) = U) := by refine Lib.hid ?_; rw [hU, addF_pos _ _ _ hp]
            clear hU
            have s0 : wr.cell? ⟨w.heap.size + 1 + 1, 0, none⟩ = some (.int .u64 (st.a : Int)) := HS.out.at4 0 (by omega)
            have g0 := HS.out.free 0
            go_wp2_with fail
            refine region_quiet_tail 13 (by kernel_rfl) (by kernel_rfl) ?_
            simp only [List.take_succ_cons, List.take_zero, List.drop_succ_cons, List.drop_zero]
            repeat (quiet_step ((go_at_call 27; with_reducible exact quiet_of_eq (HA9.out _))))
            refine wpQuiet_nil ?_
            intro _ hw'
            obtain ⟨nq, hw''⟩ := hw'
            subst hw''
            have hca2 : (wr.drewN nq).cell? ⟨w.heap.size + 1 + 1, 0, none⟩ = _ := s0
            have hfa2 : (wr.drewN nq).frozen? ⟨w.heap.size + 1 + 1, 0, none⟩ = false := g0
            go_upto_region 10 with fail
            have HSx : Hid (Blk (w.heap.size + 1 + 1) ((wr.drewN nq).setCell ⟨w.heap.size + 1 + 1, 0, none⟩ (.int .u64 (U : Int))) (fl4 (ix ⟨U, st.b, st.c, st.d⟩))) := (((HS.out.drewN nq).put4 0 U (by omega)).eq (fl4_ext fun j hj => by rcases lt4 hj with rfl | rfl | rfl | rfl <;> rfl))
            have HDx := Lib.hid ((HD1.out.drewN nq).other ⟨w.heap.size + 1 + 1, 0, none⟩ (by simp; omega) (.int .u64 (U : Int)))
            have HEx := Lib.hid ((HD2.out.drewN nq).other ⟨w.heap.size + 1 + 1, 0, none⟩ (by simp) (.int .u64 (U : Int)))
            have HOx := Lib.hid ((HO.out.drewN nq).setCell (p := ⟨w.heap.size + 1 + 1, 0, none⟩) (by simp; omega) (.int .u64 (U : Int)))
            generalize hw3 : (wr.drewN nq).setCell ⟨w.heap.size + 1 + 1, 0, none⟩ (.int .u64 (U : Int)) = w3 at *
            clear hw3 hca2 hfa2 s0 g0 hcl HS HD1 HD2 HO HA9
            have hj2 : IntKind.i64.wrap ((i : Int) + 1) = (i : Int) + 1 := IntWalk.i64_in _ (by omega)
            by_cases hlast : i + 1 = m
            · have he : (((i : Int) + 1) == (m : Int)) = true := by simp; omega
              have HNX2 : Hid (permS (F : Int) ⟨U, st.b, st.c, st.d⟩ = nx) := by
                have h := HNX.out
                rw [if_pos (.inr hlast)] at h; unfold inS at h; rw [if_pos (by omega), HXX.out, HU.out] at h; exact h.symm
              obtain ⟨y0, y1, y2, y3⟩ := HSx.out.cells4
              have HC : Hid (Calls Tryd.prog 17 #[.int .i64 (F : Int), .agg #[.int .u64 (U : Int), .int .u64 (st.b : Int), .int .u64 (st.c : Int), .int .u64 (st.d : Int)]] w3 fun e w' => e = .returned (.agg #[.int .u64 (nx.a : Int), .int .u64 (nx.b : Int), .int .u64 (nx.c : Int), .int .u64 (nx.d : Int)]) ∧ On w3 w') := by
                have h := perm_any (F : Int) ⟨U, st.b, st.c, st.d⟩ w3 HOx.out.tab ⟨by show U ≤ _; omega, by show st.b ≤ _; omega, by show st.c ≤ _; omega, by show st.d ≤ _; omega⟩
                rw [okS_yes HV.out] at h
                rw [show permS (F : Int) ⟨U, st.b, st.c, st.d⟩ = nx from HNX2.out] at h
                exact h
              go_wp2_with fail
              with_reducible refine HC.out.mono ?_
              rintro e w5 ⟨rfl, hO5⟩
              have HS5 := Lib.hid (HSx.out.on hO5)
              have HD5 := Lib.hid (HDx.out.on hO5)
              have HE5 := Lib.hid (HEx.out.on hO5)
              have HO5 := Lib.hid (HOx.out.trans hO5)
              clear hO5 HC y0 y1 y2 y3
              obtain ⟨y0, y1, y2, y3⟩ := HS5.out.cells4
              obtain ⟨g0, g1, g2, g3⟩ := HS5.out.free4
              go_wp2
              go_roundw
              case rel => exact ⟨i + 1, by omega, by go_num, by rw [HKX.out]; exact HS5.out.store4 nx, HD5.out.other4 (by omega) _ _ _ _, HE5.out.other4 (by omega) _ _ _ _, HO5.out.store4 (by omega) _ _ _ _⟩
              case measure => simp [intOf]; omega
            · have he : (((i : Int) + 1) == (m : Int)) = false := by simp; omega
              have HNX2 : Hid (⟨U, st.b, st.c, st.d⟩ = nx) := by
                have h := HNX.out
                rw [if_neg (by omega)] at h; unfold inS at h; rw [if_pos (by omega), HXX.out, HU.out] at h; exact h.symm
              rw [HNX2.out] at HSx
              go_wp2
              go_roundw
              case rel => exact ⟨i + 1, by omega, by go_num, by rw [HKX.out]; exact HSx.out, HDx.out, HEx.out, HOx.out⟩
              case measure => simp [intOf]; omega
          · have hj1 : (i : Int).tmod 2 = 1 := by rw [Int.tmod_eq_emod_of_nonneg (by omega)]; omega
            have HA9 := Lib.hid (fun n => add_any (F : Int) st.b x (wr.drewN n) HO.out.tab (by omega) hx)
            have hUl := addF_le (F : Int) st.b x
            obtain ⟨U, hU⟩ : ∃ U, U = addF (F : Int) st.b x := ⟨_, rfl⟩
            rw [← hU] at HA9 hUl
            have HU : Hid ((st.b + x) % pOf (F : Int) = U) := by refine Lib.hid ?_; rw [hU, addF_pos _ _ _ hp]
            clear hU
            have s0 : wr.cell? ⟨w.heap.size + 1 + 1, 1, none⟩ = some (.int .u64 (st.b : Int)) := HS.out.at4 1 (by omega)
            have g0 := HS.out.free 1
            go_wp2_with fail
            refine region_quiet_tail 13 (by kernel_rfl) (by kernel_rfl) ?_
            simp only [List.take_succ_cons, List.take_zero, List.drop_succ_cons, List.drop_zero]
            repeat (quiet_step ((go_at_call 27; with_reducible exact quiet_of_eq (HA9.out _))))
            refine wpQuiet_nil ?_
            intro _ hw'
            obtain ⟨nq, hw''⟩ := hw'
            subst hw''
            have hca2 : (wr.drewN nq).cell? ⟨w.heap.size + 1 + 1, 1, none⟩ = _ := s0
            have hfa2 : (wr.drewN nq).frozen? ⟨w.heap.size + 1 + 1, 1, none⟩ = false := g0
            go_upto_region 10 with fail
            have HSx : Hid (Blk (w.heap.size + 1 + 1) ((wr.drewN nq).setCell ⟨w.heap.size + 1 + 1, 1, none⟩ (.int .u64 (U : Int))) (fl4 (ix ⟨st.a, U, st.c, st.d⟩))) := (((HS.out.drewN nq).put4 1 U (by omega)).eq (fl4_ext fun j hj => by rcases lt4 hj with rfl | rfl | rfl | rfl <;> rfl))
            have HDx := Lib.hid ((HD1.out.drewN nq).other ⟨w.heap.size + 1 + 1, 1, none⟩ (by simp; omega) (.int .u64 (U : Int)))
            have HEx := Lib.hid ((HD2.out.drewN nq).other ⟨w.heap.size + 1 + 1, 1, none⟩ (by simp) (.int .u64 (U : Int)))
            have HOx := Lib.hid ((HO.out.drewN nq).setCell (p := ⟨w.heap.size + 1 + 1, 1, none⟩) (by simp; omega) (.int .u64 (U : Int)))
            generalize hw3 : (wr.drewN nq).setCell ⟨w.heap.size + 1 + 1, 1, none⟩ (.int .u64 (U : Int)) = w3 at *
            clear hw3 hca2 hfa2 s0 g0 hcl HS HD1 HD2 HO HA9
            have HNX2 : Hid (permS (F : Int) ⟨st.a, U, st.c, st.d⟩ = nx) := by
              have h := HNX.out
              rw [if_pos (.inl hq)] at h; unfold inS at h; rw [if_neg (by omega), HXX.out, HU.out] at h; exact h.symm
            obtain ⟨y0, y1, y2, y3⟩ := HSx.out.cells4
            have HC : Hid (Calls Tryd.prog 17 #[.int .i64 (F : Int), .agg #[.int .u64 (st.a : Int), .int .u64 (U : Int), .int .u64 (st.c : Int), .int .u64 (st.d : Int)]] w3 fun e w' => e = .returned (.agg #[.int .u64 (nx.a : Int), .int .u64 (nx.b : Int), .int .u64 (nx.c : Int), .int .u64 (nx.d : Int)]) ∧ On w3 w') := by
              have h := perm_any (F : Int) ⟨st.a, U, st.c, st.d⟩ w3 HOx.out.tab ⟨by show st.a ≤ _; omega, by show U ≤ _; omega, by show st.c ≤ _; omega, by show st.d ≤ _; omega⟩
              rw [okS_yes HV.out] at h
              rw [show permS (F : Int) ⟨st.a, U, st.c, st.d⟩ = nx from HNX2.out] at h
              exact h
            go_wp2_with fail
            with_reducible refine HC.out.mono ?_
            rintro e w5 ⟨rfl, hO5⟩
            have HS5 := Lib.hid (HSx.out.on hO5)
            have HD5 := Lib.hid (HDx.out.on hO5)
            have HE5 := Lib.hid (HEx.out.on hO5)
            have HO5 := Lib.hid (HOx.out.trans hO5)
            clear hO5 HC y0 y1 y2 y3
            obtain ⟨y0, y1, y2, y3⟩ := HS5.out.cells4
            obtain ⟨g0, g1, g2, g3⟩ := HS5.out.free4
            go_wp2
            go_roundw
            case rel => exact ⟨i + 1, by omega, by go_num, by rw [HKX.out]; exact HS5.out.store4 nx, HD5.out.other4 (by omega) _ _ _ _, HE5.out.other4 (by omega) _ _ _ _, HO5.out.store4 (by omega) _ _ _ _⟩
            case measure => simp [intOf]; omega
        · obtain rfl : i = m := by omega
          have l2 : ¬ (i : Int) < (i : Int) := by omega
          rw [HZT.out] at HS
          obtain ⟨a0, a1⟩ := HD1.out.cells2
          obtain ⟨b0, b1⟩ := HD2.out.cells2
          have HPC := Lib.hid (HPQ.out wr HO.out)
          go_wp2_with fail
          with_reducible refine HPC.out.mono ?_
          rintro e w7 ⟨rfl, hO7⟩
          have HS7 := Lib.hid (HS.out.on hO7)
          have HD7 := Lib.hid (HD1.out.on hO7)
          have HE7 := Lib.hid (HD2.out.on hO7)
          have HO7 := Lib.hid (HO.out.trans hO7)
          have HQ8 := Lib.hid (blk_new4 w7 q.a q.b q.c q.d 23)
          have HO78 : Hid (On w7 (w7.alloc (.cells #[.int .u64 (q.a : Int), .int .u64 (q.b : Int), .int .u64 (q.c : Int), .int .u64 (q.d : Int)] 23))) := (On.refl HO7.out.tab).alloc _
          clear hO7 HS HD1 HD2 HO a0 a1 b0 b1 HPC
          go_upto_region 13 with fail
          generalize hw8 : w7.alloc (.cells #[.int .u64 (q.a : Int), .int .u64 (q.b : Int), .int .u64 (q.c : Int), .int .u64 (q.d : Int)] 23) = u at *
          clear hw8
          have HS8 := Lib.hid (HS7.out.on HO78.out)
          have HD8 := Lib.hid (HD7.out.on HO78.out)
          have HE8 := Lib.hid (HE7.out.on HO78.out)
          have HO8 := Lib.hid (HO7.out.trans HO78.out)
          clear HS7 HD7 HE7 HO7 HO78
          generalize w7.heap.size = QB at *
          have HK : Hid (∀ wq, On u wq → _) := fun wq hq => And.intro (HS8.out.on hq).cells4 (And.intro (HD8.out.on hq).cells2 (And.intro (HE8.out.on hq).cells2 (HQ8.out.on hq).cells4))
          have HHS : Hid (∀ wq, On u wq → Calls Tryd.prog 21 #[.int .i64 (F : Int), .slice (some ⟨B, off, none⟩) i cap] wq fun e w' => e = .returned (.agg #[.int .u64 (z.a : Int), .int .u64 (z.b : Int)]) ∧ On u w') := fun wq h => HHZ.out u HO8.out wq h
          have HND : Hid (∀ wq, On u wq → Calls Tryd.prog 23 #[.int .i64 (F : Int), .agg #[.int .u64 (a : Int), .int .u64 (b : Int)], .agg #[.int .u64 (c : Int), .int .u64 (d : Int)]] wq fun e w' => e = .returned (.agg #[.int .u64 (NA : Int), .int .u64 (NB : Int)]) ∧ On u w') := HNZ.out u HO8.out
          have HAA : Hid (∀ wq, On u wq → Calls Tryd.prog 27 #[.int .i64 (F : Int), .int .u64 (q.a : Int), .int .u64 (a : Int)] wq fun e w' => e = .returned (.int .u64 (NA : Int)) ∧ On u w') := HA1.out u HO8.out
          have HAB : Hid (∀ wq, On u wq → Calls Tryd.prog 27 #[.int .i64 (F : Int), .int .u64 (q.b : Int), .int .u64 (b : Int)] wq fun e w' => e = .returned (.int .u64 (NB : Int)) ∧ On u w') := HA2.out u HO8.out
          have HH0 : Hid (∀ wq, On u wq → Calls Tryd.prog 21 #[.int .i64 (F : Int), .slice none 0 0] wq fun e w' => e = .returned (.agg #[.int .u64 (Z0 : Int), .int .u64 (Z1 : Int)]) ∧ On u w') := HZ0.out u HO8.out
          have HN0 : Hid (∀ wq, On u wq → Calls Tryd.prog 23 #[.int .i64 (F : Int), .agg #[.int .u64 0, .int .u64 0], .agg #[.int .u64 0, .int .u64 0]] wq fun e w' => e = .returned (.agg #[.int .u64 (Z0 : Int), .int .u64 (Z1 : Int)]) ∧ On u w') := HZ1.out u HO8.out
          have HLV : Hid (∀ wq, On u wq → Calls Tryd.prog 16 #[] wq fun e w' => e = .returned (.bool true) ∧ On u w') := fun wq h => (lives_any wq h.tab).mono fun e w' ⟨he, ho⟩ => ⟨he, h.trans ho⟩
          have h2e := eq2
          refine region_keep_tail (fun wq => On u wq) 41 (by kernel_rfl) (by kernel_rfl) (On.refl HO8.out.tab).drew ?_
          simp only [List.take_succ_cons, List.take_zero, List.drop_succ_cons, List.drop_zero]
          refine BigFrame.wpQuiet_want (by rfl) (fun K hK => ?_)
          refine ⟨?kv0, fun wq hwq => ?ky0, hK _ ?kr0⟩
          case ky0 => (go_simp; try with_reducible rfl)
          clear hK K
          try simp only [Act.put, List.setIfInBounds_toArray, List.set_cons_zero, List.set_cons_succ]
          refine BigFrame.wpQuiet_want (by rfl) (fun K hK => ?_)
          refine ⟨?kv1, fun wq hwq => ?ky1, hK _ ?kr1⟩
          case ky1 => (go_simp; try with_reducible rfl)
          clear hK K
          try simp only [Act.put, List.setIfInBounds_toArray, List.set_cons_zero, List.set_cons_succ]
          refine BigFrame.wpQuiet_want (by rfl) (fun K hK => ?_)
          refine ⟨.agg #[.int .u64 (z.a : Int), .int .u64 (z.b : Int)], fun wq hwq => ?ky2, hK _ ?kr2⟩
          case ky2 => (go_simp; go_at_call 21; exact HHS.out wq hwq)
          clear hK K
          try simp only [Act.put, List.setIfInBounds_toArray, List.set_cons_zero, List.set_cons_succ]
          refine BigFrame.wpQuiet_want (by rfl) (fun K hK => ?_)
          refine ⟨?kv3, fun wq hwq => ?ky3, hK _ ?kr3⟩
          case ky3 => (go_simp; try with_reducible rfl)
          clear hK K
          try simp only [Act.put, List.setIfInBounds_toArray, List.set_cons_zero, List.set_cons_succ]
          refine BigFrame.wpQuiet_want (by rfl) (fun K hK => ?_)
          refine ⟨?kv4, fun wq hwq => ?ky4, hK _ ?kr4⟩
          case ky4 => (obtain ⟨⟨s0, s1, s2, s3⟩, ⟨a0, a1⟩, ⟨b0, b1⟩, q0, q1, q2, q3⟩ := HK.out wq hwq; go_simp; try with_reducible rfl)
          clear hK K
          try simp only [Act.put, List.setIfInBounds_toArray, List.set_cons_zero, List.set_cons_succ]
          refine BigFrame.wpQuiet_want (by rfl) (fun K hK => ?_)
          refine ⟨?kv5, fun wq hwq => ?ky5, hK _ ?kr5⟩
          case ky5 => (go_simp; try with_reducible rfl)
          clear hK K
          try simp only [Act.put, List.setIfInBounds_toArray, List.set_cons_zero, List.set_cons_succ]
          refine BigFrame.wpQuiet_want (by rfl) (fun K hK => ?_)
          refine ⟨?kv6, fun wq hwq => ?ky6, hK _ ?kr6⟩
          case ky6 => (obtain ⟨⟨s0, s1, s2, s3⟩, ⟨a0, a1⟩, ⟨b0, b1⟩, q0, q1, q2, q3⟩ := HK.out wq hwq; go_simp; try with_reducible rfl)
          clear hK K
          try simp only [Act.put, List.setIfInBounds_toArray, List.set_cons_zero, List.set_cons_succ]
          refine BigFrame.wpQuiet_want (by rfl) (fun K hK => ?_)
          refine ⟨.agg #[.int .u64 (z.a : Int), .int .u64 (z.b : Int)], fun wq hwq => ?ky7, hK _ ?kr7⟩
          case ky7 => (go_simp; try rfl)
          clear hK K
          try simp only [Act.put, List.setIfInBounds_toArray, List.set_cons_zero, List.set_cons_succ]
          refine BigFrame.wpQuiet_want (by rfl) (fun K hK => ?_)
          refine ⟨.bool true, fun wq hwq => ?ky8, hK _ ?kr8⟩
          case ky8 => (go_simp; try simp)
          clear hK K
          try simp only [Act.put, List.setIfInBounds_toArray, List.set_cons_zero, List.set_cons_succ]
          refine BigFrame.wpQuiet_want (by rfl) (fun K hK => ?_)
          refine ⟨?kv9, fun wq hwq => ?ky9, hK _ ?kr9⟩
          case ky9 => (go_simp; try with_reducible rfl)
          clear hK K
          try simp only [Act.put, List.setIfInBounds_toArray, List.set_cons_zero, List.set_cons_succ]
          refine BigFrame.wpQuiet_want (by rfl) (fun K hK => ?_)
          refine ⟨?kv10, fun wq hwq => ?ky10, hK _ ?kr10⟩
          case ky10 => (go_simp; try with_reducible rfl)
          clear hK K
          try simp only [Act.put, List.setIfInBounds_toArray, List.set_cons_zero, List.set_cons_succ]
          refine BigFrame.wpQuiet_want (by rfl) (fun K hK => ?_)
          refine ⟨?kv11, fun wq hwq => ?ky11, hK _ ?kr11⟩
          case ky11 => (obtain ⟨⟨s0, s1, s2, s3⟩, ⟨a0, a1⟩, ⟨b0, b1⟩, q0, q1, q2, q3⟩ := HK.out wq hwq; go_simp; try with_reducible rfl)
          clear hK K
          try simp only [Act.put, List.setIfInBounds_toArray, List.set_cons_zero, List.set_cons_succ]
          refine BigFrame.wpQuiet_want (by rfl) (fun K hK => ?_)
          refine ⟨?kv12, fun wq hwq => ?ky12, hK _ ?kr12⟩
          case ky12 => (obtain ⟨⟨s0, s1, s2, s3⟩, ⟨a0, a1⟩, ⟨b0, b1⟩, q0, q1, q2, q3⟩ := HK.out wq hwq; go_simp; try with_reducible rfl)
          clear hK K
          try simp only [Act.put, List.setIfInBounds_toArray, List.set_cons_zero, List.set_cons_succ]
          refine BigFrame.wpQuiet_want (by rfl) (fun K hK => ?_)
          refine ⟨.agg #[.int .u64 (NA : Int), .int .u64 (NB : Int)], fun wq hwq => ?ky13, hK _ ?kr13⟩
          case ky13 => (go_simp; go_at_call 23; exact HND.out wq hwq)
          clear hK K
          try simp only [Act.put, List.setIfInBounds_toArray, List.set_cons_zero, List.set_cons_succ]
          refine BigFrame.wpQuiet_want (by rfl) (fun K hK => ?_)
          refine ⟨?kv14, fun wq hwq => ?ky14, hK _ ?kr14⟩
          case ky14 => (go_simp; try with_reducible rfl)
          clear hK K
          try simp only [Act.put, List.setIfInBounds_toArray, List.set_cons_zero, List.set_cons_succ]
          refine BigFrame.wpQuiet_want (by rfl) (fun K hK => ?_)
          refine ⟨?kv15, fun wq hwq => ?ky15, hK _ ?kr15⟩
          case ky15 => (go_simp; try with_reducible rfl)
          clear hK K
          try simp only [Act.put, List.setIfInBounds_toArray, List.set_cons_zero, List.set_cons_succ]
          refine BigFrame.wpQuiet_want (by rfl) (fun K hK => ?_)
          refine ⟨?kv16, fun wq hwq => ?ky16, hK _ ?kr16⟩
          case ky16 => (obtain ⟨⟨s0, s1, s2, s3⟩, ⟨a0, a1⟩, ⟨b0, b1⟩, q0, q1, q2, q3⟩ := HK.out wq hwq; go_simp; try with_reducible rfl)
          clear hK K
          try simp only [Act.put, List.setIfInBounds_toArray, List.set_cons_zero, List.set_cons_succ]
          refine BigFrame.wpQuiet_want (by rfl) (fun K hK => ?_)
          refine ⟨?kv17, fun wq hwq => ?ky17, hK _ ?kr17⟩
          case ky17 => (go_simp; try with_reducible rfl)
          clear hK K
          try simp only [Act.put, List.setIfInBounds_toArray, List.set_cons_zero, List.set_cons_succ]
          refine BigFrame.wpQuiet_want (by rfl) (fun K hK => ?_)
          refine ⟨?kv18, fun wq hwq => ?ky18, hK _ ?kr18⟩
          case ky18 => (obtain ⟨⟨s0, s1, s2, s3⟩, ⟨a0, a1⟩, ⟨b0, b1⟩, q0, q1, q2, q3⟩ := HK.out wq hwq; go_simp; try with_reducible rfl)
          clear hK K
          try simp only [Act.put, List.setIfInBounds_toArray, List.set_cons_zero, List.set_cons_succ]
          refine BigFrame.wpQuiet_want (by rfl) (fun K hK => ?_)
          refine ⟨.int .u64 (NA : Int), fun wq hwq => ?ky19, hK _ ?kr19⟩
          case ky19 => (go_simp; go_at_call 27; exact HAA.out wq hwq)
          clear hK K
          try simp only [Act.put, List.setIfInBounds_toArray, List.set_cons_zero, List.set_cons_succ]
          refine BigFrame.wpQuiet_want (by rfl) (fun K hK => ?_)
          refine ⟨?kv20, fun wq hwq => ?ky20, hK _ ?kr20⟩
          case ky20 => (go_simp; try with_reducible rfl)
          clear hK K
          try simp only [Act.put, List.setIfInBounds_toArray, List.set_cons_zero, List.set_cons_succ]
          refine BigFrame.wpQuiet_want (by rfl) (fun K hK => ?_)
          refine ⟨?kv21, fun wq hwq => ?ky21, hK _ ?kr21⟩
          case ky21 => (go_simp; try with_reducible rfl)
          clear hK K
          try simp only [Act.put, List.setIfInBounds_toArray, List.set_cons_zero, List.set_cons_succ]
          refine BigFrame.wpQuiet_want (by rfl) (fun K hK => ?_)
          refine ⟨?kv22, fun wq hwq => ?ky22, hK _ ?kr22⟩
          case ky22 => (obtain ⟨⟨s0, s1, s2, s3⟩, ⟨a0, a1⟩, ⟨b0, b1⟩, q0, q1, q2, q3⟩ := HK.out wq hwq; go_simp; try with_reducible rfl)
          clear hK K
          try simp only [Act.put, List.setIfInBounds_toArray, List.set_cons_zero, List.set_cons_succ]
          refine BigFrame.wpQuiet_want (by rfl) (fun K hK => ?_)
          refine ⟨?kv23, fun wq hwq => ?ky23, hK _ ?kr23⟩
          case ky23 => (go_simp; try with_reducible rfl)
          clear hK K
          try simp only [Act.put, List.setIfInBounds_toArray, List.set_cons_zero, List.set_cons_succ]
          refine BigFrame.wpQuiet_want (by rfl) (fun K hK => ?_)
          refine ⟨?kv24, fun wq hwq => ?ky24, hK _ ?kr24⟩
          case ky24 => (obtain ⟨⟨s0, s1, s2, s3⟩, ⟨a0, a1⟩, ⟨b0, b1⟩, q0, q1, q2, q3⟩ := HK.out wq hwq; go_simp; try with_reducible rfl)
          clear hK K
          try simp only [Act.put, List.setIfInBounds_toArray, List.set_cons_zero, List.set_cons_succ]
          refine BigFrame.wpQuiet_want (by rfl) (fun K hK => ?_)
          refine ⟨.int .u64 (NB : Int), fun wq hwq => ?ky25, hK _ ?kr25⟩
          case ky25 => (go_simp; go_at_call 27; exact HAB.out wq hwq)
          clear hK K
          try simp only [Act.put, List.setIfInBounds_toArray, List.set_cons_zero, List.set_cons_succ]
          refine BigFrame.wpQuiet_want (by rfl) (fun K hK => ?_)
          refine ⟨.agg #[.int .u64 (NA : Int), .int .u64 (NB : Int)], fun wq hwq => ?ky26, hK _ ?kr26⟩
          case ky26 => (go_simp; try rfl)
          clear hK K
          try simp only [Act.put, List.setIfInBounds_toArray, List.set_cons_zero, List.set_cons_succ]
          refine BigFrame.wpQuiet_want (by rfl) (fun K hK => ?_)
          refine ⟨.bool true, fun wq hwq => ?ky27, hK _ ?kr27⟩
          case ky27 => (go_simp; try simp)
          clear hK K
          try simp only [Act.put, List.setIfInBounds_toArray, List.set_cons_zero, List.set_cons_succ]
          refine BigFrame.wpQuiet_want (by rfl) (fun K hK => ?_)
          refine ⟨?kv28, fun wq hwq => ?ky28, hK _ ?kr28⟩
          case ky28 => (go_simp; try with_reducible rfl)
          clear hK K
          try simp only [Act.put, List.setIfInBounds_toArray, List.set_cons_zero, List.set_cons_succ]
          refine BigFrame.wpQuiet_want (by rfl) (fun K hK => ?_)
          refine ⟨?kv29, fun wq hwq => ?ky29, hK _ ?kr29⟩
          case ky29 => (go_simp; try with_reducible rfl)
          clear hK K
          try simp only [Act.put, List.setIfInBounds_toArray, List.set_cons_zero, List.set_cons_succ]
          refine BigFrame.wpQuiet_want (by rfl) (fun K hK => ?_)
          refine ⟨?kv30, fun wq hwq => ?ky30, hK _ ?kr30⟩
          case ky30 => (go_simp; try with_reducible rfl)
          clear hK K
          try simp only [Act.put, List.setIfInBounds_toArray, List.set_cons_zero, List.set_cons_succ]
          refine BigFrame.wpQuiet_want (by rfl) (fun K hK => ?_)
          refine ⟨.agg #[.int .u64 (Z0 : Int), .int .u64 (Z1 : Int)], fun wq hwq => ?ky31, hK _ ?kr31⟩
          case ky31 => (go_simp; go_at_call 21; exact HH0.out wq hwq)
          clear hK K
          try simp only [Act.put, List.setIfInBounds_toArray, List.set_cons_zero, List.set_cons_succ]
          refine BigFrame.wpQuiet_want (by rfl) (fun K hK => ?_)
          refine ⟨?kv32, fun wq hwq => ?ky32, hK _ ?kr32⟩
          case ky32 => (go_simp; try with_reducible rfl)
          clear hK K
          try simp only [Act.put, List.setIfInBounds_toArray, List.set_cons_zero, List.set_cons_succ]
          refine BigFrame.wpQuiet_want (by rfl) (fun K hK => ?_)
          refine ⟨.agg #[.int .u64 0, .int .u64 0], fun wq hwq => ?ky33, hK _ ?kr33⟩
          case ky33 => (go_simp; try rfl)
          clear hK K
          try simp only [Act.put, List.setIfInBounds_toArray, List.set_cons_zero, List.set_cons_succ]
          refine BigFrame.wpQuiet_want (by rfl) (fun K hK => ?_)
          refine ⟨.agg #[.int .u64 0, .int .u64 0], fun wq hwq => ?ky34, hK _ ?kr34⟩
          case ky34 => (go_simp; try rfl)
          clear hK K
          try simp only [Act.put, List.setIfInBounds_toArray, List.set_cons_zero, List.set_cons_succ]
          refine BigFrame.wpQuiet_want (by rfl) (fun K hK => ?_)
          refine ⟨.agg #[.int .u64 (Z0 : Int), .int .u64 (Z1 : Int)], fun wq hwq => ?ky35, hK _ ?kr35⟩
          case ky35 => (go_simp; go_at_call 23; exact HN0.out wq hwq)
          clear hK K
          try simp only [Act.put, List.setIfInBounds_toArray, List.set_cons_zero, List.set_cons_succ]
          refine BigFrame.wpQuiet_want (by rfl) (fun K hK => ?_)
          refine ⟨.bool true, fun wq hwq => ?ky36, hK _ ?kr36⟩
          case ky36 => (go_simp; try simp)
          clear hK K
          try simp only [Act.put, List.setIfInBounds_toArray, List.set_cons_zero, List.set_cons_succ]
          refine BigFrame.wpQuiet_want (by rfl) (fun K hK => ?_)
          refine ⟨?kv37, fun wq hwq => ?ky37, hK _ ?kr37⟩
          case ky37 => (go_simp; try with_reducible rfl)
          clear hK K
          try simp only [Act.put, List.setIfInBounds_toArray, List.set_cons_zero, List.set_cons_succ]
          refine BigFrame.wpQuiet_want (by rfl) (fun K hK => ?_)
          refine ⟨?kv38, fun wq hwq => ?ky38, hK _ ?kr38⟩
          case ky38 => (go_simp; try with_reducible rfl)
          clear hK K
          try simp only [Act.put, List.setIfInBounds_toArray, List.set_cons_zero, List.set_cons_succ]
          refine BigFrame.wpQuiet_want (by rfl) (fun K hK => ?_)
          refine ⟨.bool true, fun wq hwq => ?ky39, hK _ ?kr39⟩
          case ky39 => (go_simp; go_at_call 16; exact HLV.out wq hwq)
          clear hK K
          try simp only [Act.put, List.setIfInBounds_toArray, List.set_cons_zero, List.set_cons_succ]
          refine BigFrame.wpQuiet_want (by rfl) (fun K hK => ?_)
          refine ⟨?kv40, fun wq hwq => ?ky40, hK _ ?kr40⟩
          case ky40 => (go_simp; try with_reducible rfl)
          clear hK K
          try simp only [Act.put, List.setIfInBounds_toArray, List.set_cons_zero, List.set_cons_succ]
          refine wpQuiet_nil ?_
          intro wz HOz
          have HOz := Lib.hid HOz
          go_wp2
          go_ret
          exact ⟨rfl, HO8.out.trans HOz.out⟩
end Go.Proofs.YtbmieoedpgdlpaaDoor
