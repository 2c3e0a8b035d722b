/- Lists of limbs in memory, and the calls of package ratio that only read them. -/
import Derived.Test.YtdgmlmcllkgemaaProg
import Derived.Test.YtdgmlmcllkgemaaKz01
import Derived.Handy
import Derived.Laws.Bits64b
import Derived.Lib.Hide
import Derived.Deep.QuietTactic
import Derived.BigQuiet
set_option linter.unusedSimpArgs false
set_option linter.unusedVariables false
/- Lists of limbs in memory, and the calls of package ratio that only read them. -/
namespace Go.Proofs.Ytdgmlmcllkgemaa
open Go.RowKit
set_option linter.unusedVariables false

theorem ret_int {k : IntKind} {a b : Int} (h : a = b) : Ending.returned (.int k a) = .returned (.int k b) := by rw [h]
theorem ret_nat {k : IntKind} {a b : Nat} (h : a = b) : Ending.returned (.int k (a : Int)) = .returned (.int k (b : Int)) := by rw [h]
theorem ret_bool {a b : Bool} (h : a = b) : Ending.returned (.bool a) = .returned (.bool b) := by rw [h]
theorem val_int {k : IntKind} {a b : Int} (h : a = b) : Value.int k a = .int k b := by rw [h]
theorem cell_size {w : World} {a : Addr} {v : Value} (h : w.cell? a = some v) : a.block < w.heap.size := by
  unfold World.cell? at h
  rcases Nat.lt_or_ge a.block w.heap.size with e | e
  · exact e
  · rw [Array.getElem?_eq_none e] at h; simp at h
/-- The first m cells from an address hold the limbs of X. -/
def Rd (w : World) (oa : Option Addr) (m : Nat) (X : Int) : Prop := ∀ k, k < m → ∃ b off, oa = some ⟨b, off, none⟩ ∧ w.cell? ⟨b, off + k, none⟩ = some (.int .u32 ((dg X k : Nat) : Int))
/-- The slice v reads as m limbs of X. -/
def Lv (w : World) (v : Value) (m : Nat) (X : Int) : Prop := ∃ oa cap, v = .slice oa m cap ∧ m ≤ cap ∧ cap ≤ 9223372036854775807 ∧ Rd w oa m X
/-- The slice v reads as the number n. -/
def Nv (w : World) (v : Value) (n : Nat) : Prop := Lv w v (nl n) (n : Int)

theorem Rd.below {w w' : World} {oa : Option Addr} {m : Nat} {X : Int} (h : Rd w oa m X) (hb : Below w.heap.size w w') : Rd w' oa m X := by
  intro k hk
  obtain ⟨b, off, rfl, hc⟩ := h k hk
  exact ⟨b, off, rfl, by rw [hb.cell (p := ⟨b, off + k, none⟩) (cell_size hc)]; exact hc⟩
theorem Lv.below {w w' : World} {v : Value} {m : Nat} {X : Int} (h : Lv w v m X) (hb : Below w.heap.size w w') : Lv w' v m X := by
  obtain ⟨oa, cap, h1, h2, h3, h4⟩ := h
  exact ⟨oa, cap, h1, h2, h3, h4.below hb⟩
theorem Nv.below {w w' : World} {v : Value} {n : Nat} (h : Nv w v n) (hb : Below w.heap.size w w') : Nv w' v n := Lv.below h hb
theorem Nv.cells {w : World} {B : Nat} {n cap : Nat} (h : Nv w (.slice (some ⟨B, 0, none⟩) (nl n) cap) n) : ∀ k, k < nl n → w.cell? ⟨B, 0 + k, none⟩ = some (.int .u32 ((dg (n : Int) k : Nat) : Int)) := by
  intro k hk
  obtain ⟨oa, c, h1, _, _, h2⟩ := h
  obtain ⟨b, o, rfl, hc⟩ := h2 k hk
  simp only [Value.slice.injEq, Option.some.injEq, Addr.mk.injEq] at h1
  obtain ⟨⟨rfl, rfl, -⟩, -, -⟩ := h1
  exact hc
theorem Nv.nil (w : World) : Nv w (.slice none 0 0) 0 := ⟨none, 0, by rw [nl_zero], by rw [nl_zero]; omega, by omega, fun k hk => by rw [nl_zero] at hk; omega⟩
theorem Rd.shorter {w : World} {oa : Option Addr} {m m' : Nat} {X : Int} (h : Rd w oa m X) (hm : m' ≤ m) : Rd w oa m' X := fun k hk => h k (by omega)

theorem trim_any (oa : Option Addr) (m cap x : Nat) (w : World) (hm : m ≤ cap) (hcap : cap ≤ 9223372036854775807) (hR : Rd w oa m (x : Int)) (hx : x < 4294967296 ^ m) :
    Calls Try.prog 73 #[.slice oa m cap] w fun e w' => (∃ v, e = .returned v ∧ Nv w v x ∧ (v = .slice none 0 0 ∨ ∃ n, v = .slice oa n n)) ∧ w = w' := by
  have hn : nl x ≤ m := (nl_le _ _).2 hx
  go_enter Try.func73, Try.ntmps73
  go_hidden (go_wp2)
  go_loop [3] (fun vi => ∃ n : Nat, vi = .int .i64 n ∧ n ≤ m ∧ x < 4294967296 ^ n) (fun vi => (intOf vi).toNat)
  case atStart => exact ⟨m, rfl, Nat.le_refl _, hx⟩
  case round =>
    obtain ⟨n, rfl, hnm, hxn⟩ := hrel
    cases n with
    | zero =>
      obtain rfl : x = 0 := by simpa using hxn
      have HN := Lib.hid (Nv.nil w)
      go_wp2
      go_ret
      exact ⟨⟨_, rfl, HN.out, .inl rfl⟩, rfl⟩
    | succ k =>
      obtain ⟨b, off, rfl, hc⟩ := hR k (by omega)
      by_cases hd : dg (x : Int) k = 0
      · have HX : Hid (x < 4294967296 ^ k) := trim_step hxn hd
        rw [hd] at hc
        clear hR hd hxn
        go_wp2
        go_round
        case rel => exact ⟨k, by go_num, by omega, HX.out⟩
        case measure => simp [intOf]
      · have hk := trim_stop hxn hd
        have HN : Hid (Nv w (.slice (some ⟨b, off, none⟩) (k + 1) (k + 1)) x) := ⟨some ⟨b, off, none⟩, k + 1, by rw [hk], by omega, by omega, hR.shorter hn⟩
        have hd0 : (((dg (x : Int) k : Nat) : Int) == 0) = false := by simp; omega
        clear hR hd hxn hk hn
        generalize dg (x : Int) k = d at *
        go_wp2
        go_ret
        exact ⟨⟨_, rfl, HN.out, .inr ⟨_, rfl⟩⟩, rfl⟩
end Go.Proofs.Ytdgmlmcllkgemaa

/- The calls of package ratio that write into a list in place. -/
namespace Go.Proofs.Ytdgmlmcllkgemaa
open Go.RowKit
set_option linter.unusedVariables false

/-- Only block B has changed. -/
structure Ap (B : Nat) (w w' : World) : Prop where
  os : w'.os = w.os
  tape : w'.tape = w.tape
  output : w'.output = w.output
  size : w'.heap.size = w.heap.size
  block : ∀ k, k ≠ B → w'.heap[k]? = w.heap[k]?
theorem Ap.refl (B : Nat) (w : World) : Ap B w w := ⟨rfl, rfl, rfl, rfl, fun _ _ => rfl⟩
theorem Ap.trans {B : Nat} {a b c : World} (h : Ap B a b) (k : Ap B b c) : Ap B a c :=
  ⟨k.os.trans h.os, k.tape.trans h.tape, k.output.trans h.output, k.size.trans h.size, fun i hi => (k.block i hi).trans (h.block i hi)⟩
theorem Ap.setCell {B : Nat} {a w : World} (h : Ap B a w) (off : Nat) (u : Value) : Ap B a (w.setCell ⟨B, off, none⟩ u) :=
  h.trans ⟨rfl, rfl, rfl, by simp [World.setCell], fun k hk => Below.heap_setCell _ _ _ _ hk⟩
theorem Ap.drewN {B : Nat} {a w : World} (h : Ap B a w) (n : Nat) : Ap B a (w.drewN n) := h.trans ⟨rfl, rfl, rfl, rfl, fun _ _ => rfl⟩
theorem Ap.below {B C : Nat} {w w' : World} (h : Ap B w w') (hC : C ≤ B) : Below C w w' :=
  ⟨h.os, h.tape, h.output, by rw [h.size]; exact Nat.le_refl _, fun k hk => h.block k (by omega)⟩
theorem Ap.cell {B : Nat} {w w' : World} (h : Ap B w w') {p : Addr} (hp : p.block ≠ B) : w'.cell? p = w.cell? p := World.cell?_of_block (w := w) (h.block p.block hp)
theorem Rd.ap {B : Nat} {w w' : World} {oa : Option Addr} {m : Nat} {X : Int} (h : Rd w oa m X) (k : Ap B w w') (hn : ∀ b o, oa = some ⟨b, o, none⟩ → 0 < m → b ≠ B) : Rd w' oa m X := by
  intro i hi
  obtain ⟨b, off, rfl, hc⟩ := h i hi
  exact ⟨b, off, rfl, by rw [k.cell (p := ⟨b, off + i, none⟩) (hn b off rfl (by omega))]; exact hc⟩

/-- Block B's cells from off on, m of them, now hold the limbs of X; nothing else has changed. -/
structure Win (B off m : Nat) (X : Int) (w w' : World) : Prop where
  cells : ∀ k, k < m → w'.cell? ⟨B, off + k, none⟩ = some (.int .u32 ((dg X k : Nat) : Int))
  rest : ∀ k, k < off ∨ off + m ≤ k → w'.cell? ⟨B, k, none⟩ = w.cell? ⟨B, k, none⟩
  free : ∀ k, w'.frozen? ⟨B, k, none⟩ = false
  ap : Ap B w w'
/-- On the way: k of the m cells are written. -/
structure Way (B off m k : Nat) (X Y : Int) (w w' : World) : Prop where
  done : ∀ j, j < k → w'.cell? ⟨B, off + j, none⟩ = some (.int .u32 ((dg X j : Nat) : Int))
  todo : ∀ j, k ≤ j → j < m → w'.cell? ⟨B, off + j, none⟩ = some (.int .u32 ((dg Y j : Nat) : Int))
  rest : ∀ j, j < off ∨ off + m ≤ j → w'.cell? ⟨B, j, none⟩ = w.cell? ⟨B, j, none⟩
  free : ∀ j, w'.frozen? ⟨B, j, none⟩ = false
  ap : Ap B w w'
theorem Way.start {B off m : Nat} {X Y : Int} {w : World} (h : ∀ k, k < m → w.cell? ⟨B, off + k, none⟩ = some (.int .u32 ((dg Y k : Nat) : Int))) (hf : ∀ k, w.frozen? ⟨B, k, none⟩ = false) : Way B off m 0 X Y w w :=
  ⟨fun j hj => by omega, fun j _ hj => h j hj, fun _ _ => rfl, hf, Ap.refl _ _⟩
theorem Way.done' {B off m : Nat} {X Y : Int} {w w' : World} (h : Way B off m m X Y w w') : Win B off m X w w' := ⟨h.done, h.rest, h.free, h.ap⟩
theorem Way.step {B off m k : Nat} {X Y : Int} {w w' : World} (h : Way B off m k X Y w w') (hk : k < m) : Way B off m (k + 1) X Y w (w'.setCell ⟨B, off + k, none⟩ (.int .u32 ((dg X k : Nat) : Int))) := by
  refine ⟨fun j hj => ?_, fun j h1 h2 => ?_, fun j hj => ?_, fun j => ?_, h.ap.setCell _ _⟩
  · by_cases e : j = k
    · subst e; exact World.cell?_setCell_same (h := h.todo j (Nat.le_refl _) hk) ..
    · rw [World.cell?_setCell_other (h := fun e => by simp at e; try omega) ..]; exact h.done j (by omega)
  · rw [World.cell?_setCell_other (h := fun e => by simp at e; try omega) ..]; exact h.todo j (by omega) h2
  · rw [World.cell?_setCell_other (h := fun e => by simp at e; try omega) ..]; exact h.rest j hj
  · rw [World.frozen?_setCell]; exact h.free j
theorem Way.stepz {B off m k : Nat} {X Y : Int} {w w' : World} (h : Way B off m k X Y w w') (hk : k < m) (z : Int) (hz : z = ((dg X k : Nat) : Int)) : Way B off m (k + 1) X Y w (w'.setCell ⟨B, off + k, none⟩ (.int .u32 z)) := by
  subst hz; exact h.step hk
theorem Way.drewN {B off m k : Nat} {X Y : Int} {w w' : World} (h : Way B off m k X Y w w') (n : Nat) : Way B off m k X Y w (w'.drewN n) := ⟨h.done, h.todo, h.rest, h.free, h.ap.drewN n⟩

theorem ret_u64 {a b : Int} (h : a = b) : Value.int .u64 a = .int .u64 b := by rw [h]
set_option maxHeartbeats 1000000 in
theorem putOn_any (B off m cap t cap' x y n : Nat) (oa : Option Addr) (w : World) (hm : m ≤ cap) (hcap : cap ≤ 9223372036854775807) (hc : ∀ k, k < m → w.cell? ⟨B, off + k, none⟩ = some (.int .u32 ((dg (x : Int) k : Nat) : Int))) (hf : ∀ k, w.frozen? ⟨B, k, none⟩ = false)
    (hd : Rd w oa t (y : Int)) (hne : ∀ b o, oa = some ⟨b, o, none⟩ → 0 < t → b ≠ B) (ht : t ≤ m) (hy : y < 4294967296 ^ t) (hx : x < 4294967296 ^ m) (hn : n ≤ 4294967295) :
    Calls Try.prog 86 #[.slice (some ⟨B, off, none⟩) m cap, .slice oa t cap', .int .u64 (n : Int)] w fun e w' => e = .returned (.bool (decide (0 < (x + n * y) / 4294967296 ^ m))) ∧ Win B off m ((x + n * y : Nat) : Int) w w' := by
  have HY := Lib.hid hy; clear hy
  have HX := Lib.hid hx; clear hx
  have HS : Hid (Way B off m 0 ((x + n * y : Nat) : Int) (x : Int) w w) := Way.start hc hf
  clear hc hf
  have HD := Lib.hid hd; clear hd
  have HNE := Lib.hid hne; clear hne
  go_enter Try.func86, Try.ntmps86
  go_hidden (go_wp2)
  go_loopw [7, 11] (fun vc vi wr => ∃ k : Nat, k ≤ m ∧ vi = .int .i64 k ∧ vc = .int .u64 ((upC x y n k : Nat) : Int) ∧ Hid (Way B off m k ((x + n * y : Nat) : Int) (x : Int) w wr)) (fun _ vi _ => m - (intOf vi).toNat)
  case atStart => exact ⟨0, Nat.zero_le _, rfl, by rw [upC_zero]; rfl, HS⟩
  case round =>
    obtain ⟨k, hk, rfl, rfl, HW⟩ := hrel
    by_cases hlt : k < m
    · have hcell := HW.out.todo k (Nat.le_refl _) hlt
      have hfr := HW.out.free (off + k)
      have hC := upC_le x y n k
      have HCR := Lib.hid (up_carry x y n k)
      have HDG := Lib.hid (up_digit x y n k)
      have HW2 := Lib.hid (HW.out.step hlt)
      have ha := dg_lt (x : Int) k
      have hb := dg_lt (y : Int) k
      have hmul : n * dg (y : Int) k ≤ 18446744065119617025 := Nat.le_trans (Nat.mul_le_mul hn (show dg (y : Int) k ≤ 4294967295 by omega)) (by decide)
      by_cases hkt : k < t
      · obtain ⟨b, o, rfl, hcy⟩ := HD.out.ap HW.out.ap HNE.out k hkt
        generalize dg (x : Int) k = a at *
        generalize dg (y : Int) k = d at *
        generalize upC x y n k = c at *
        clear HW
        go_wp2
        go_roundw
        case rel => exact ⟨k + 1, by omega, by go_num, by rw [HCR.out]; go_num, by rw [show (((c : Int) + a + n * d) % 4294967296) = ((dg ((x + n * y : Nat) : Int) k : Nat) : Int) by rw [HDG.out]; go_num]; exact HW2.out⟩
        case measure => simp [intOf]; omega
      · have hz : dg (y : Int) k = 0 := dg_zero (Nat.lt_of_lt_of_le HY.out (Nat.pow_le_pow_right (by decide) (by omega)))
        rw [hz, Nat.mul_zero, Nat.add_zero] at HCR HDG
        clear hz hb hmul
        generalize dg (x : Int) k = a at *
        generalize upC x y n k = c at *
        clear HW
        go_wp2
        go_roundw
        case rel => exact ⟨k + 1, by omega, by go_num, by rw [HCR.out]; go_num, by rw [show (((c : Int) + a) % 4294967296) = ((dg ((x + n * y : Nat) : Int) k : Nat) : Int) by rw [HDG.out]; go_num]; exact HW2.out⟩
        case measure => simp [intOf]; omega
    · obtain rfl : k = m := by omega
      have HE : Hid (upC x y n k = (x + n * y) / 4294967296 ^ k) := up_end HX.out (Nat.lt_of_lt_of_le HY.out (Nat.pow_le_pow_right (by decide) ht))
      have HF := Lib.hid HW.out.done'
      have hC := upC_le x y n k
      generalize upC x y n k = c at *
      clear HW
      go_wp2
      go_ret
      exact ⟨by rw [← HE.out]; simp, HF.out⟩

set_option maxHeartbeats 1000000 in
theorem takeOff_any (B off m cap t cap' x y n : Nat) (oa : Option Addr) (w : World) (hm : m ≤ cap) (hcap : cap ≤ 9223372036854775807) (hc : ∀ k, k < m → w.cell? ⟨B, off + k, none⟩ = some (.int .u32 ((dg (x : Int) k : Nat) : Int))) (hf : ∀ k, w.frozen? ⟨B, k, none⟩ = false)
    (hd : Rd w oa t (y : Int)) (hne : ∀ b o, oa = some ⟨b, o, none⟩ → 0 < t → b ≠ B) (ht : t ≤ m) (hy : y < 4294967296 ^ t) (hx : x < 4294967296 ^ m) (hn : n ≤ 4294967295) :
    Calls Try.prog 88 #[.slice (some ⟨B, off, none⟩) m cap, .slice oa t cap', .int .u64 (n : Int)] w fun e w' => e = .returned (.bool (decide (x < n * y))) ∧ Win B off m ((x : Int) - ((n * y : Nat) : Int)) w w' := by
  have HY := Lib.hid hy; clear hy
  have HX := Lib.hid hx; clear hx
  have HS : Hid (Way B off m 0 ((x : Int) - ((n * y : Nat) : Int)) (x : Int) w w) := Way.start hc hf
  clear hc hf
  have HD := Lib.hid hd; clear hd
  have HNE := Lib.hid hne; clear hne
  go_enter Try.func88, Try.ntmps88
  go_hidden (go_wp2)
  go_loopw [7, 12] (fun vc vi wr => ∃ k : Nat, k ≤ m ∧ vi = .int .i64 k ∧ vc = .int .u64 ((dnC x y n k : Nat) : Int) ∧ Hid (Way B off m k ((x : Int) - ((n * y : Nat) : Int)) (x : Int) w wr)) (fun _ vi _ => m - (intOf vi).toNat)
  case atStart => exact ⟨0, Nat.zero_le _, rfl, by rw [dnC_zero]; rfl, HS⟩
  case round =>
    obtain ⟨k, hk, rfl, rfl, HW⟩ := hrel
    by_cases hlt : k < m
    · have hcell := HW.out.todo k (Nat.le_refl _) hlt
      have hfr := HW.out.free (off + k)
      have hC := dnC_le x y n k
      have HW2 := Lib.hid (HW.out.stepz hlt)
      have ha := dg_lt (x : Int) k
      have hb := dg_lt (y : Int) k
      have hmul : n * dg (y : Int) k ≤ 18446744065119617025 := Nat.le_trans (Nat.mul_le_mul hn (show dg (y : Int) k ≤ 4294967295 by omega)) (by decide)
      have HDG := Lib.hid (dn_digit x y n k)
      have HCR := Lib.hid (dn_carry x y n k)
      by_cases hkt : k < t
      · obtain ⟨b, o, rfl, hcy⟩ := HD.out.ap HW.out.ap HNE.out k hkt
        generalize dg (x : Int) k = a at *
        generalize dg (y : Int) k = d at *
        generalize dnC x y n k = c at *
        clear HW
        by_cases hlo : (a : Int) < ((c : Int) + n * d) % 4294967296
        · go_wp2
          go_roundw
          case rel => exact ⟨k + 1, by omega, by go_num, ret_u64 (by have := HCR.out; rw [this]; push_cast; omega), HW2.out _ (by rw [HDG.out]; push_cast; rfl)⟩
          case measure => simp [intOf]; omega
        · go_wp2
          go_roundw
          case rel => exact ⟨k + 1, by omega, by go_num, ret_u64 (by have := HCR.out; rw [this]; push_cast; omega), HW2.out _ (by rw [HDG.out]; push_cast; omega)⟩
          case measure => simp [intOf]; omega
      · have hz : dg (y : Int) k = 0 := dg_zero (Nat.lt_of_lt_of_le HY.out (Nat.pow_le_pow_right (by decide) (by omega)))
        rw [hz, Nat.mul_zero, Nat.add_zero] at HCR HDG
        clear hz hb hmul
        generalize dg (x : Int) k = a at *
        generalize dnC x y n k = c at *
        clear HW
        have hcw : (c : Int) % 4294967296 = (c : Int) := by omega
        by_cases hlo : (a : Int) < (c : Int)
        · go_wp2
          go_roundw
          case rel => exact ⟨k + 1, by omega, by go_num, ret_u64 (by have := HCR.out; rw [this]; push_cast; omega), HW2.out _ (by rw [HDG.out])⟩
          case measure => simp [intOf]; omega
        · go_wp2
          go_roundw
          case rel => exact ⟨k + 1, by omega, by go_num, ret_u64 (by have := HCR.out; rw [this]; push_cast; omega), HW2.out _ (by rw [HDG.out]; omega)⟩
          case measure => simp [intOf]; omega
    · obtain rfl : k = m := by omega
      have HE : Hid (0 < dnC x y n k ↔ x < n * y) := dn_end HX.out (Nat.lt_of_lt_of_le HY.out (Nat.pow_le_pow_right (by decide) ht))
      have HF := Lib.hid HW.out.done'
      have hC := dnC_le x y n k
      generalize dnC x y n k = c at *
      clear HW
      go_wp2
      go_ret
      exact ⟨by congr 1; simp [← HE.out], HF.out⟩
end Go.Proofs.Ytdgmlmcllkgemaa
