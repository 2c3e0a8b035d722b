/- Parse of package ratio. -/
import Derived.Test.YtdgmlmcllkgemaaKz08
import Derived.Test.YtdgmlmcllkgemaaKz12
set_option linter.unusedSimpArgs false
set_option linter.unusedVariables false
/- Parse of package ratio. -/
namespace Go.Proofs.Ytdgmlmcllkgemaa
open Go.RowKit
set_option linter.unusedVariables false

theorem nl_small {n : Nat} (h0 : 0 < n) (h : n < 4294967296) : nl n = 1 := nl_eq (k := 0) (by simp; omega) (by simp; omega)
/-- A new list of one limb. -/
theorem one_nv (w : World) (B n : Nat) (hB : B = w.heap.size) (h0 : 0 < n) (h : n < 4294967296) : Nv (w.alloc (.cells #[.int .u32 (n : Int)] 54)) (.slice (some ⟨B, 0, none⟩) 1 1) n := by
  subst hB
  refine ⟨_, 1, by rw [nl_small h0 h], by rw [nl_small h0 h]; omega, by omega, fun k hk => ⟨_, _, rfl, ?_⟩⟩
  rw [nl_small h0 h] at hk
  obtain rfl : k = 0 := by omega
  have hd : dg (n : Int) 0 = n := by rw [dg_nat]; simp; omega
  rw [hd, Nat.zero_add, World.cell?_alloc_new]; rfl
theorem ten_nv (w : World) (B : Nat) (hB : B = w.heap.size) : Nv (w.alloc (.cells #[.int .u32 10] 54)) (.slice (some ⟨B, 0, none⟩) 1 1) 10 := one_nv w B 10 hB (by decide) (by decide)
theorem limC_gt {a b : Nat} (h : a ≤ b) (ha : 64 < nl a) : limC b = limC a ∧ limN b = limN a := by
  have := nl_mono h
  unfold limC limN
  rw [if_neg (by omega), if_neg (by omega), if_neg (by omega), if_neg (by omega)]; exact ⟨rfl, rfl⟩

theorem Parse_bad (l : List UInt8) (w : World) (hl : l.length ≤ 9223372036854775807) (ht : textB l = false) :
    Calls Try.prog 28 #[str l] w fun e w' => ∃ v, e = .returned (.tuple #[v, .int .i64 4]) ∧ Nv w' v 0 ∧ On w w' := by
  have HN := Lib.hid (Nv.nil w)
  have HT := Lib.hid ht; clear ht
  have H := Lib.hid (isText_any l w hl)
  unfold str at *
  go_enter Try.func28, Try.ntmps28
  go_wp2_with (go_at_call 70; refine H.out.mono ?_; rw [HT.out]; rintro e w' ⟨rfl, rfl⟩)
  first | go_ret | go_returns | go_ret2
  exact ⟨_, rfl, HN.out, On.refl _⟩
set_option maxHeartbeats 2000000 in
theorem Parse_yes (l : List UInt8) (w : World) (hl : l.length ≤ 9223372036854775807) (ht : textB l = true) :
    Calls Try.prog 28 #[str l] w fun e w' => ∃ v, e = .returned (.tuple #[v, .int .i64 (limC (numOf l))]) ∧ Nv w' v (limN (numOf l)) ∧ On w w' := by
  have hs : (⟨l.toArray⟩ : ByteArray).size = l.length := rfl
  have HD : Hid (∀ k (h : k < l.length), 48 ≤ l[k].toNat ∧ l[k].toNat ≤ 57) := by
    intro k h
    unfold textB at ht
    rw [Bool.and_eq_true, List.all_eq_true] at ht
    have := ht.1 l[k] (List.getElem_mem h)
    unfold digitB at this
    simpa using this
  have HT := Lib.hid ht; clear ht
  have H := Lib.hid (isText_any l w hl)
  have hz := nl_zero
  have HN := Lib.hid (Nv.nil w)
  unfold str at *
  go_enter Try.func28, Try.ntmps28
  go_hidden (go_wp2_with (go_at_call 70; refine H.out.mono ?_; rw [HT.out]; rintro e w' ⟨rfl, rfl⟩))
  clear hz
  go_loopw [4, 5] (fun v4 vi wr => ∃ k A : Nat, vi = .int .i64 k ∧ k ≤ l.length ∧ nl A ≤ 65 ∧ Hid (A = numOf (l.take k)) ∧ Hid (Nv wr v4 A ∧ On w wr)) (fun _ vi _ => l.length - (intOf vi).toNat)
  case atStart => exact ⟨0, 0, rfl, Nat.zero_le _, by rw [nl_zero]; omega, rfl, HN.out, On.refl _⟩
  case round =>
    obtain ⟨k, A, rfl, hk, hA, HA, HW⟩ := hrel
    obtain ⟨oa, ca, rfl, -, -, -⟩ := HW.out.1
    by_cases hgo : k < l.length ∧ nl A ≤ 64
    · obtain ⟨hlt, hA4⟩ := hgo
      obtain ⟨c, hc⟩ : ∃ c : Nat, (⟨l.toArray⟩ : ByteArray)[k].toNat = c := ⟨_, rfl⟩
      have HC : Hid (l[k].toNat = c) := hc
      obtain ⟨hc1, hc2⟩ := HD.out k hlt
      rw [HC.out] at hc1 hc2
      obtain ⟨d, hd⟩ : ∃ d : Nat, (c : Int) - 48 = (d : Int) := ⟨c - 48, by omega⟩
      have hd9 : d ≤ 9 := by omega
      have HW8 : Hid (IntKind.u8.wrap ((d : Nat) : Int) = (d : Int)) := by unfold Hid; rw [IntKind.wrap_u8']; omega
      have HW64 : Hid (IntKind.u64.wrap ((d : Nat) : Int) = (d : Int)) := by unfold Hid; rw [IntKind.wrap_u64]; omega
      have HS : Hid (A * 10 + d = numOf (l.take (k + 1))) := by
        unfold Hid; rw [numOf_take_succ l k hlt, HC.out, ← HA.out]; omega
      have hA2 : nl (A * 10 + d) ≤ 65 := by
        rw [nl_le]
        have h1 := (nl_le _ _).1 hA4
        rw [Nat.pow_succ]; omega
      have hA3 : nl (A * 10) ≤ 1000000 := Nat.le_trans (nl_mono (Nat.le_add_right (A * 10) d)) (by omega)
      have hn10 : nl 10 ≤ 1000000 := by rw [nl_small (by decide) (by decide)]; decide
      have hnd : nl d ≤ 1000000 := Nat.le_trans (nl_two (by omega)) (by decide)
      have hdec : decide (((nl A : Nat) : Int) ≤ 64) = true := by simp; omega
      have HVA := Lib.hid HW.out.1
      clear hA4
      have HPR := Lib.hid (product_any (.slice oa (nl A) ca) (.slice (some ⟨wr.heap.size, 0, none⟩) 1 1) A 10 ((wr.alloc (.cells #[.int .u32 10] 54)).drew) (HVA.out.on ((On.refl wr).alloc _).drew) (Nv.on (ten_nv wr _ rfl) (On.refl _).drew) (by omega) hn10)
      have HO10 : Hid (On w ((wr.alloc (.cells #[.int .u32 10] 54)).drew)) := (HW.out.2.alloc _).drew
      clear hn10
      go_wp2
      go_region_held3 (fun w' => True) (trivial) (first
        | (go_at_call 65; refine HPR.out.mono ?_; rintro e wa ⟨va, rfl, hva, hOa⟩; have HVa := Lib.hid hva; have HOa := Lib.hid hOa; clear hva hOa)
        | (go_at_call 32; rw [HW8.out, HW64.out]; refine (nat_any d _ (by omega)).mono ?_; rintro e wb ⟨vb, rfl, hvb, hOb⟩; have HVb := Lib.hid hvb; have HOb := Lib.hid hOb; clear hvb hOb)
        | (go_at_call 60; refine (sum_any va vb (A * 10) d _ (HVa.out.on HOb.out) HVb.out hA3 hnd).mono ?_; rintro e wz ⟨vz, rfl, hvz, hOz⟩; have HV := Lib.hid hvz; have HO := Lib.hid (HO10.out.trans ((HOa.out.trans HOb.out).trans hOz)); clear hvz hOz))
      all_goals
        go_wp2
        go_roundw
        case rel => exact ⟨k + 1, A * 10 + d, by go_num, by omega, hA2, HS, HV.out, HO.out⟩
        case measure => simp [intOf]; omega
    · have HL : Hid (limC (numOf l) = limC A ∧ limN (numOf l) = limN A) := by
        by_cases h2 : nl A ≤ 64
        · obtain rfl : k = l.length := by omega
          have := HA.out
          rw [List.take_length] at this
          rw [this]; exact ⟨rfl, rfl⟩
        · exact limC_gt (by rw [HA.out]; exact numOf_take_le _ _) (by omega)
      have h3 : ¬ k < l.length ∨ (k < l.length ∧ ¬ nl A ≤ 64) := by omega
      clear hgo
      rcases h3 with h3 | ⟨h3, h4⟩
      · have hd1 : decide ((k : Int) < (l.length : Int)) = false := by simp; omega
        go_wp2_with (go_at_call 59; refine (limited_any _ A _ HW.out.1).mono ?_; rintro e w3 ⟨v3, rfl, h3', rfl⟩; have H3 := Lib.hid h3'; clear h3')
        first | go_ret | go_returns | go_ret2
        exact ⟨_, by rw [HL.out.1]; rfl, by rw [HL.out.2]; exact H3.out, HW.out.2⟩
      · have hd1 : decide (((nl A : Nat) : Int) ≤ 64) = false := by simp; omega
        clear h4
        go_wp2_with (go_at_call 59; refine (limited_any _ A _ HW.out.1).mono ?_; rintro e w3 ⟨v3, rfl, h3', rfl⟩; have H3 := Lib.hid h3'; clear h3')
        first | go_ret | go_returns | go_ret2
        exact ⟨_, by rw [HL.out.1]; rfl, by rw [HL.out.2]; exact H3.out, HW.out.2⟩
end Go.Proofs.Ytdgmlmcllkgemaa

/- The closure of Text: it appends the digits of a number. -/
namespace Go.Proofs.Ytdgmlmcllkgemaa
open Go.RowKit
set_option linter.unusedVariables false

def bytesV (l : List UInt8) : List Value := l.map fun c => .int .u8 (c.toNat : Int)
/-- v is a row of the call's own from block B on: the bytes l. -/
def OwnsB (B : Nat) (w : World) (v : Value) (l : List UInt8) : Prop := w.ownsRow B 5 1 v l.length (bytesV l)
theorem OwnsB.nil (B : Nat) (w : World) : OwnsB B w (.slice none 0 0) [] := World.ownsRow_nil _ _ _ _
theorem OwnsB.shape {B : Nat} {w : World} {v : Value} {l : List UInt8} (h : OwnsB B w v l) : ∃ a cap, v = .slice a l.length cap := by
  rcases h.2 with ⟨h1, h2⟩ | ⟨g, cap, cur, h1, _⟩
  · exact ⟨none, 0, by rw [h1, h2]⟩
  · exact ⟨_, _, h1⟩
theorem OwnsB.alloc {B : Nat} {w : World} {v : Value} {l : List UInt8} (h : OwnsB B w v l) (o : Obj) : OwnsB B (w.alloc o) v l := World.ownsRow.alloc h o
theorem OwnsB.below {B : Nat} {w : World} {v : Value} {l : List UInt8} (h : OwnsB B w v l) {a : Addr} (ha : a.block < B) (u : Value) : OwnsB B (w.setCell a u) v l := ownsRow_setCell_below h ha u
theorem OwnsB.on {B : Nat} {w w' : World} {v : Value} {l : List UInt8} (h : OwnsB B w v l) (k : On w w') : OwnsB B w' v l := by
  refine ⟨h.1, ?_⟩
  rcases h.2 with h1 | ⟨g, cap, cur, rfl, hb, hg, r⟩
  · exact .inl h1
  · exact .inr ⟨g, cap, cur, rfl, hb, by rw [Below.block k g (Array.getElem?_eq_some_iff.1 hg).1]; exact hg, r⟩
/-- A block that begins with a limb stays as it is. -/
def Keep32 (w w' : World) : Prop := ∀ b z, w.cell? ⟨b, 0, none⟩ = some (.int .u32 z) → w'.heap[b]? = w.heap[b]?
theorem Keep32.refl (w : World) : Keep32 w w := fun _ _ _ => rfl
theorem Keep32.trans {a b c : World} (h : Keep32 a b) (k : Keep32 b c) : Keep32 a c := fun n z hz => by
  have e := h n z hz
  rw [k n z ((World.cell?_of_block (w := a) (a := ⟨n, 0, none⟩) e).trans hz), e]
theorem Keep32.on {w w' : World} (k : On w w') : Keep32 w w' := fun b z hz => Below.block k b (cell_size hz)
theorem Keep32.set {w : World} {B : Nat} {v : Value} (hc : w.cell? ⟨B, 0, none⟩ = some v) (hv : ∀ z, v ≠ .int .u32 z) (u : Value) : Keep32 w (w.setCell ⟨B, 0, none⟩ u) := fun b z hz =>
  Below.heap_setCell _ _ _ _ (fun e => by
    have e2 : b = B := e
    subst e2; rw [hc] at hz; exact hv z (Option.some.inj hz))
theorem Nv.keep {w w' : World} {v : Value} {n : Nat} (h : Nv w v n) (hz : Z0 v) (k : Keep32 w w') : Nv w' v n := by
  obtain ⟨oa, cap, rfl, h2, h3, h4⟩ := h
  refine ⟨oa, cap, rfl, h2, h3, fun i hi => ?_⟩
  obtain ⟨b, off, rfl, hc⟩ := h4 i hi
  rcases hz with hz | ⟨b', n', c', hz⟩
  · simp at hz
  · simp only [Value.slice.injEq, Option.some.injEq, Addr.mk.injEq] at hz
    obtain ⟨⟨rfl, rfl, -⟩, -, -⟩ := hz
    obtain ⟨b0, o0, h5, h6⟩ := h4 0 (by omega)
    simp only [Option.some.injEq, Addr.mk.injEq] at h5
    obtain ⟨rfl, rfl, -⟩ := h5
    exact ⟨b, 0, rfl, by rw [World.cell?_of_block (w := w) (a := ⟨b, 0 + i, none⟩) (k b _ h6)]; exact hc⟩
/-- The row's first cell is a byte: so its block begins with no limb. -/
theorem OwnsB.first {B : Nat} {w : World} {v : Value} {l : List UInt8} (h : OwnsB B w v l) (hl : l ≠ []) {g : Nat} (hg : v.ownBlock = some g) (z : Int) : w.cell? ⟨g, 0, none⟩ ≠ some (.int .u32 z) := by
  rcases h.2 with ⟨h1, _⟩ | ⟨g', cap, cur, rfl, _, hh, _, _, _, hx⟩
  · rw [h1] at hg; simp [Value.ownBlock] at hg
  · simp only [Value.ownBlock, Option.some.injEq] at hg
    subst hg
    intro hc
    obtain ⟨c, t, rfl⟩ : ∃ c t, l = c :: t := by cases l with
      | nil => exact absurd rfl hl
      | cons c t => exact ⟨c, t, rfl⟩
    have h0 : (cur.toList.take ((c :: t).length * 1))[0]? = (bytesV (c :: t))[0]? := by rw [hx]
    rw [List.getElem?_take, if_pos (by simp)] at h0
    unfold World.cell? at hc
    rw [hh] at hc
    have h9 : cur.toList[0]? = some (.int .u32 z) := by simpa using hc
    rw [h9] at h0
    simp [bytesV] at h0
theorem info_u8 : (Try.prog.info? 5).map (fun i => (i.zero, i.size, i.bytes)) = some (some (.int .u8 0), 1, 1) := by kernel_rfl
theorem wp_append_byte {w : World} {ops : Array Oper} {rest : List Oper} {o : Oper} {a : Act} {Q : Exit → Act → World → Prop} (hgd : o.guard = none) (s x : Operand)
    (ho : o.op = .call { callee := .builtin .append, args := #[s, x], argTypes := #[58, 58] }) (B : Nat) (v : Value) (l : List UInt8) (hs : a.eval s = v) (hown : OwnsB B w v l) (c : UInt8) (blk : Nat) (hx : a.eval x = .slice (some ⟨blk, 0, none⟩) 1 1) (hc : w.cell? ⟨blk, 0, none⟩ = some (.int .u8 (c.toNat : Int)))
    (hlen : l.length ≤ 1000000) (hbase : B ≤ w.heap.size)
    (hnil : l = [] → v = .slice none 0 0) (h : ∀ v' w', OwnsB B w' v' (l ++ [c]) → Below B w w' → Keep32 w w' → wpList Try.prog ops Q rest (a.put o.dst v') w') : wpList Try.prog ops Q (o :: rest) a w := by
  obtain ⟨i0, hi, hz0, hz1, hz2⟩ := info_parts info_u8
  refine wpList_append_own _ hgd s x 58 ho B 5 i0 (.int .u8 0) 1 1 Try.underlying58 hi hz0 hz1 hz2 rfl (by decide) v l.length (bytesV l) hs hown ⟨blk, 0, none⟩ 1 1 [.int .u8 (c.toNat : Int)] hx rfl ?_ ?_ (by unfold maxLen; omega) (by omega) hbase ?_
  · intro j u hj
    match j, hj with
    | 0, hj => simp at hj; subst hj; simpa [Addr.add] using hc
  · intro u hu; simp at hu; subst hu; rfl
  · intro v' w' h1 h2 _
    refine h v' w' ?_ ((Below.refl _ _).grown h2 hbase (fun k hk => (World.ownsRow.lt hown k hk).1)) (fun b z hz => h2.block b (cell_size hz) (fun e => ?_))
    rotate_left
    · by_cases hl : l = []
      · rw [hnil hl] at e; simp [Value.ownBlock] at e
      · exact hown.first hl e.symm z hz
    unfold OwnsB bytesV at *
    rw [List.length_append, List.map_append]; exact h1

set_option maxHeartbeats 2000000 in
theorem write_any (Bv : Nat) (n least : Nat) (v0 : Value) (l0 : List UInt8) (w : World) (hn : n ≤ 18446744073709551615) (hl : least ≤ 9) (hc : w.cell? ⟨Bv, 0, none⟩ = some v0) (hf : w.frozen? ⟨Bv, 0, none⟩ = false) (hown : OwnsB (Bv + 1) w v0 l0) (h0 : l0.length ≤ 10000) (hnil : l0 = [] → v0 = .slice none 0 0) (hv0 : ∀ z, v0 ≠ .int .u32 z) :
    Calls Try.prog 55 #[.int .u64 (n : Int), .int .i64 (least : Int), .pointer (some ⟨Bv, 0, none⟩)] w fun e w' => (∃ u, e = .returned u) ∧ ∃ v, w'.cell? ⟨Bv, 0, none⟩ = some v ∧ w'.frozen? ⟨Bv, 0, none⟩ = false ∧ OwnsB (Bv + 1) w' v (l0 ++ lo (max least (ndz n)) n) ∧ Below Bv w w' ∧ Keep32 w w' := by
  have hz20 : ndz n ≤ 20 := (ndz_le _ _).2 (by omega)
  have HS : Hid (w.cell? ⟨Bv, 0, none⟩ = some v0 ∧ w.frozen? ⟨Bv, 0, none⟩ = false ∧ OwnsB (Bv + 1) w v0 (l0 ++ lo 0 n) ∧ Below Bv w w ∧ Keep32 w w ∧ (l0 ++ lo 0 n = [] → v0 = .slice none 0 0)) := ⟨hc, hf, by rw [lo_zero, List.append_nil]; exact hown, Below.refl _ _, Keep32.refl _, by rw [lo_zero, List.append_nil]; exact hnil⟩
  have HB := Lib.hid (cell_size hc)
  clear hc hf hown hnil hv0
  obtain ⟨m, hm⟩ : ∃ m, m = max least (ndz n) := ⟨_, rfl⟩
  have hmb : m ≤ 20 := by omega
  rw [← hm]
  have HM := Lib.hid hm; clear hm hz20
  go_enter Try.func55, Try.ntmps55
  go_hidden (go_wp2)
  go_loopw [0, 5] (fun vn vi wr => ∃ i N : Nat, vn = .int .u64 (N : Int) ∧ vi = .int .i64 (i : Int) ∧ i ≤ m ∧ Hid (N = n / 10 ^ i) ∧ N ≤ 18446744073709551615 ∧ Hid (∃ v, wr.cell? ⟨Bv, 0, none⟩ = some v ∧ wr.frozen? ⟨Bv, 0, none⟩ = false ∧ OwnsB (Bv + 1) wr v (l0 ++ lo i n) ∧ Below Bv w wr ∧ Keep32 w wr ∧ (l0 ++ lo i n = [] → v = .slice none 0 0))) (fun _ vi _ => m - (intOf vi).toNat)
  case atStart => exact ⟨0, n, rfl, rfl, Nat.zero_le _, by unfold Hid; simp, hn, v0, HS.out⟩
  case round =>
    clear HS
    obtain ⟨i, N, rfl, rfl, hi, HN, hNb, HW⟩ := hrel
    obtain ⟨v, hcv, hfv, hov, hbv, hkv, hnv⟩ := HW.out
    have HST : Hid (N / 10 = n / 10 ^ (i + 1)) := by unfold Hid; rw [HN.out, Nat.div_div_eq_div_mul, ← Nat.pow_succ]
    have HLO : Hid (l0 ++ lo (i + 1) n = (l0 ++ lo i n) ++ [dgt N]) := by unfold Hid; rw [lo_succ, ← HN.out, List.append_assoc]
    have HLT : Hid (i < m ↔ (i < least ∨ 0 < N)) := by
      have hmm := HM.out
      have h1 : (0 < N ↔ i < ndz n) := by
        have h2 := ndz_le n i
        have h3 : N = 0 ↔ n < 10 ^ i := by
          rw [HN.out]
          constructor
          · intro h; exact (Nat.div_eq_zero_iff_lt (tp_pos i)).1 h
          · intro h; exact Nat.div_eq_of_lt h
        omega
      unfold Hid
      omega
    have hsz : Bv < wr.heap.size := cell_size hcv
    have hlen : (l0 ++ lo i n).length ≤ 1000000 := by rw [List.length_append, lo_len]; omega
    obtain ⟨L, hL⟩ : ∃ L, L = l0 ++ lo i n := ⟨_, rfl⟩
    rw [← hL] at hlen hov HLO hnv
    have HL := Lib.hid hL; clear hL
    have HOV := Lib.hid hov
    obtain ⟨ov, cv, rfl⟩ := hov.shape
    clear hov HW
    have HLEN := Lib.hid hlen; clear hlen
    have HBV := Lib.hid hbv; have HKV := Lib.hid hkv; have HNV := Lib.hid hnv; clear hbv hkv hnv
    by_cases hgo : i < m
    · have hdg : Hid ((48 : Int) + (N : Int) % 10 = ((dgt N).toNat : Int)) := by unfold Hid; rw [dgt_toNat]; omega
      have hcell : Hid ((wr.alloc (.cells #[.int .u8 (48 + (N : Int) % 10)] 5)).cell? ⟨wr.heap.size, 0, none⟩ = some (.int .u8 ((dgt N).toNat : Int))) := by
        unfold Hid; rw [World.cell?_alloc_new, ← hdg.out]; rfl
      have h3 : i < least ∨ (¬ i < least ∧ 0 < N) := by have := HLT.out.1 hgo; omega
      have hd1 : (i < least ∧ decide (i < least) = true) ∨ (decide (i < least) = false ∧ decide (0 < N) = true) := by
        rcases h3 with h3 | ⟨h3, h4⟩
        · exact .inl ⟨h3, decide_eq_true h3⟩
        · exact .inr ⟨decide_eq_false h3, decide_eq_true h4⟩
      clear h3
      rcases hd1 with ⟨-, hd1⟩ | ⟨hd1, hd2⟩
      all_goals
        go_wp2_with (at_builtin; refine wp_append_byte rfl (.tmp 15) (.tmp 20) rfl (Bv + 1) (.slice ov L.length cv) L rfl (HOV.out.alloc _) (dgt N) wr.heap.size rfl hcell.out HLEN.out (by simp; omega) HNV.out ?_)
        intro v' w1 h1 h2 h3
        have HK2 := Lib.hid h3; clear h3
        have HOW := Lib.hid h1
        have HB2 := Lib.hid h2
        obtain ⟨o', c', rfl⟩ := h1.shape
        have hcv1 : w1.cell? ⟨Bv, 0, none⟩ = some (.slice ov L.length cv) := by
          rw [h2.cell (p := ⟨Bv, 0, none⟩) (Nat.lt_succ_self Bv), World.cell?_alloc_past _ _ _ hsz]; exact hcv
        have hfv1 : w1.frozen? ⟨Bv, 0, none⟩ = false := by
          rw [h2.frozen (p := ⟨Bv, 0, none⟩) (Nat.lt_succ_self Bv), World.frozen?_alloc_past _ _ _ hsz]; exact hfv
        clear h1 h2
        obtain ⟨L', hL'⟩ : ∃ L', L' = L ++ [dgt N] := ⟨_, rfl⟩
        rw [← hL'] at HOW ⊢
        have HL' := Lib.hid hL'; clear hL'
        have HNEW : Hid (∃ v, (w1.setCell ⟨Bv, 0, none⟩ (.slice o' L'.length c')).cell? ⟨Bv, 0, none⟩ = some v ∧ (w1.setCell ⟨Bv, 0, none⟩ (.slice o' L'.length c')).frozen? ⟨Bv, 0, none⟩ = false ∧ OwnsB (Bv + 1) (w1.setCell ⟨Bv, 0, none⟩ (.slice o' L'.length c')) v (l0 ++ lo (i + 1) n) ∧ Below Bv w (w1.setCell ⟨Bv, 0, none⟩ (.slice o' L'.length c')) ∧ Keep32 w (w1.setCell ⟨Bv, 0, none⟩ (.slice o' L'.length c')) ∧ (l0 ++ lo (i + 1) n = [] → v = .slice none 0 0)) := by
          refine ⟨_, World.cell?_setCell_same (h := hcv1) .., by rw [World.frozen?_setCell]; exact hfv1, ?_, ?_, ?_, ?_⟩
          · rw [HLO.out, ← HL'.out]; exact OwnsB.below HOW.out (Nat.lt_succ_self Bv) _
          · exact ((HBV.out.alloc (Nat.le_of_lt hsz) _).trans (HB2.out.mono (Nat.le_succ Bv))).setCell (Nat.le_refl _) _
          · exact ((HKV.out.trans (Keep32.on ((On.refl wr).alloc _))).trans HK2.out).trans (Keep32.set hcv1 (fun z e => by cases e) _)
          · intro h; rw [HLO.out] at h; simp at h
        clear HB2 HOW HBV HOV hcell HKV HK2 HNV
        go_wp2
        go_roundw
        case rel => exact ⟨i + 1, N / 10, by go_num, by go_num, by omega, HST, by omega, HNEW⟩
        case measure => simp [intOf]; omega
    · have hd1 : decide (i < least) = false := decide_eq_false (by have := HLT.out; omega)
      have hd2 : decide (0 < N) = false := decide_eq_false (by have := HLT.out; omega)
      obtain rfl : i = m := by omega
      have HNEW : Hid (∃ v, wr.cell? ⟨Bv, 0, none⟩ = some v ∧ wr.frozen? ⟨Bv, 0, none⟩ = false ∧ OwnsB (Bv + 1) wr v (l0 ++ lo i n) ∧ Below Bv w wr ∧ Keep32 w wr) := ⟨_, hcv, hfv, by rw [← HL.out]; exact HOV.out, HBV.out, HKV.out⟩
      clear hgo hcv hfv
      go_wp2
      first | (go_ret; exact ⟨⟨_, rfl⟩, HNEW.out⟩) | (go_end0; exact ⟨⟨_, rfl⟩, HNEW.out⟩) | exact ⟨rfl, _, rfl, ⟨_, rfl⟩, HNEW.out⟩
end Go.Proofs.Ytdgmlmcllkgemaa
