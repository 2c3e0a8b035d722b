/- Lists of limbs in memory, and the calls of package ratio that only read them. -/
import Derived.Test.YtdgmlmcllkgemaaProg
import Derived.Test.YtdgmlmcllkgemaaNum
import Derived.Handy
import Derived.Laws.Bits64b
import Derived.Lib.Hide
import Derived.Deep.QuietTactic
import Derived.BigQuiet
namespace Go.Proofs.Ytdgmlmcllkgemaa
open Go.RowKit
set_option linter.unusedVariables false

theorem ret_int {k : IntKind} {a b : Int} (h : a = b) : Ending.returned (.int k a) = .returned (.int k b) := by rw [h]
theorem ret_nat {k : IntKind} {a b : Nat} (h : a = b) : Ending.returned (.int k (a : Int)) = .returned (.int k (b : Int)) := by rw [h]
theorem ret_bool {a b : Bool} (h : a = b) : Ending.returned (.bool a) = .returned (.bool b) := by rw [h]
theorem val_int {k : IntKind} {a b : Int} (h : a = b) : Value.int k a = .int k b := by rw [h]
theorem cell_size {w : World} {a : Addr} {v : Value} (h : w.cell? a = some v) : a.block < w.heap.size := by
  unfold World.cell? at h
  rcases Nat.lt_or_ge a.block w.heap.size with e | e
  · exact e
  · rw [Array.getElem?_eq_none e] at h; simp at h
/-- The first m cells from an address hold the limbs of X. -/
def Rd (w : World) (oa : Option Addr) (m : Nat) (X : Int) : Prop := ∀ k, k < m → ∃ b off, oa = some ⟨b, off, none⟩ ∧ w.cell? ⟨b, off + k, none⟩ = some (.int .u32 ((dg X k : Nat) : Int))
/-- The slice v reads as m limbs of X. -/
def Lv (w : World) (v : Value) (m : Nat) (X : Int) : Prop := ∃ oa cap, v = .slice oa m cap ∧ m ≤ cap ∧ cap ≤ 9223372036854775807 ∧ Rd w oa m X
/-- The slice v reads as the number n. -/
def Nv (w : World) (v : Value) (n : Nat) : Prop := Lv w v (nl n) (n : Int)

theorem Rd.below {w w' : World} {oa : Option Addr} {m : Nat} {X : Int} (h : Rd w oa m X) (hb : Below w.heap.size w w') : Rd w' oa m X := by
  intro k hk
  obtain ⟨b, off, rfl, hc⟩ := h k hk
  exact ⟨b, off, rfl, by rw [hb.cell (p := ⟨b, off + k, none⟩) (cell_size hc)]; exact hc⟩
theorem Lv.below {w w' : World} {v : Value} {m : Nat} {X : Int} (h : Lv w v m X) (hb : Below w.heap.size w w') : Lv w' v m X := by
  obtain ⟨oa, cap, h1, h2, h3, h4⟩ := h
  exact ⟨oa, cap, h1, h2, h3, h4.below hb⟩
theorem Nv.below {w w' : World} {v : Value} {n : Nat} (h : Nv w v n) (hb : Below w.heap.size w w') : Nv w' v n := Lv.below h hb
theorem Nv.cells {w : World} {B : Nat} {n cap : Nat} (h : Nv w (.slice (some ⟨B, 0, none⟩) (nl n) cap) n) : ∀ k, k < nl n → w.cell? ⟨B, 0 + k, none⟩ = some (.int .u32 ((dg (n : Int) k : Nat) : Int)) := by
  intro k hk
  obtain ⟨oa, c, h1, _, _, h2⟩ := h
  obtain ⟨b, o, rfl, hc⟩ := h2 k hk
  simp only [Value.slice.injEq, Option.some.injEq, Addr.mk.injEq] at h1
  obtain ⟨⟨rfl, rfl, -⟩, -, -⟩ := h1
  exact hc
theorem Nv.nil (w : World) : Nv w (.slice none 0 0) 0 := ⟨none, 0, by rw [nl_zero], by rw [nl_zero]; omega, by omega, fun k hk => by rw [nl_zero] at hk; omega⟩
theorem Rd.shorter {w : World} {oa : Option Addr} {m m' : Nat} {X : Int} (h : Rd w oa m X) (hm : m' ≤ m) : Rd w oa m' X := fun k hk => h k (by omega)

theorem trim_any (oa : Option Addr) (m cap x : Nat) (w : World) (hm : m ≤ cap) (hcap : cap ≤ 9223372036854775807) (hR : Rd w oa m (x : Int)) (hx : x < 4294967296 ^ m) :
    Calls Try.prog 73 #[.slice oa m cap] w fun e w' => (∃ v, e = .returned v ∧ Nv w v x ∧ (v = .slice none 0 0 ∨ ∃ n, v = .slice oa n n)) ∧ w = w' := by
  have hn : nl x ≤ m := (nl_le _ _).2 hx
  go_enter Try.func73, Try.ntmps73
  go_hidden (go_wp2)
  go_loop [3] (fun vi => ∃ n : Nat, vi = .int .i64 n ∧ n ≤ m ∧ x < 4294967296 ^ n) (fun vi => (intOf vi).toNat)
  case atStart => exact ⟨m, rfl, Nat.le_refl _, hx⟩
  case round =>
    obtain ⟨n, rfl, hnm, hxn⟩ := hrel
    cases n with
    | zero =>
      obtain rfl : x = 0 := by simpa using hxn
      have HN := Lib.hid (Nv.nil w)
      go_wp2
      go_ret
      exact ⟨⟨_, rfl, HN.out, .inl rfl⟩, rfl⟩
    | succ k =>
      obtain ⟨b, off, rfl, hc⟩ := hR k (by omega)
      by_cases hd : dg (x : Int) k = 0
      · have HX : Hid (x < 4294967296 ^ k) := trim_step hxn hd
        rw [hd] at hc
        clear hR hd hxn
        go_wp2
        go_round
        case rel => exact ⟨k, by go_num, by omega, HX.out⟩
        case measure => simp [intOf]
      · have hk := trim_stop hxn hd
        have HN : Hid (Nv w (.slice (some ⟨b, off, none⟩) (k + 1) (k + 1)) x) := ⟨some ⟨b, off, none⟩, k + 1, by rw [hk], by omega, by omega, hR.shorter hn⟩
        have hd0 : (((dg (x : Int) k : Nat) : Int) == 0) = false := by simp; omega
        clear hR hd hxn hk hn
        generalize dg (x : Int) k = d at *
        go_wp2
        go_ret
        exact ⟨⟨_, rfl, HN.out, .inr ⟨_, rfl⟩⟩, rfl⟩
end Go.Proofs.Ytdgmlmcllkgemaa
