/- The document's own Value and Text, and each beside the program's: the same answers. -/
import Derived.Test.YtdgmlmcllkgemaaQg
import Derived.Test.YtdgmlmcllkgemaaText
namespace Go.Proofs.Ytdgmlmcllkgemaa
open Go.RowKit
set_option linter.unusedVariables false

theorem pvalue_no (v : Value) (m x : Nat) (w : World) (h : Lv w v m (x : Int)) (hx : x < 4294967296 ^ m) (hk : okB m x = false ∨ 2 < m) :
    AnsE Try.prog 8 #[v] w (.tuple #[.int .u64 0, .bool false]) := by
  have HV := Lib.hid (valid_lv v m x w h hx)
  obtain ⟨oa, cap, rfl, -, -, -⟩ := h
  go_enter Try.func8, Try.ntmps8
  cases hb : okB m x
  · rw [hb] at HV
    clear hb hk hx
    go_wp2_with (go_at_call 10; refine HV.out.mono ?_; rintro e w' ⟨rfl, rfl⟩)
    go_ret2
    exact ⟨rfl, On.refl _⟩
  · have hm : 2 < m := by rcases hk with h | h; rw [hb] at h; cases h; exact h
    have hm2 : (2 : Int) < (m : Int) := by omega
    rw [hb] at HV
    clear hb hk hx
    go_wp2_with (go_at_call 10; refine HV.out.mono ?_; rintro e w' ⟨rfl, rfl⟩)
    go_ret2
    exact ⟨rfl, On.refl _⟩
theorem pvalue_yes (v : Value) (m x : Nat) (w : World) (h : Lv w v m (x : Int)) (hx : x < 4294967296 ^ m) (hk : okB m x = true) (hm : m ≤ 2) :
    AnsE Try.prog 8 #[v] w (.tuple #[.int .u64 (x : Int), .bool true]) := by
  have HV := Lib.hid (valid_lv v m x w h hx)
  obtain ⟨oa, cap, rfl, -, -, hR⟩ := h
  have HN := Lib.hid (number_any oa m cap x w hm hR hx)
  rw [hk] at HV
  have hm2 : ¬ ((2 : Int) < (m : Int)) := by omega
  clear hk hx hR
  go_enter Try.func8, Try.ntmps8
  go_wp2_with (first
    | (go_at_call 10; refine HV.out.mono ?_; rintro e w' ⟨rfl, rfl⟩)
    | (go_at_call 51; refine HN.out.mono ?_; rintro e w' ⟨rfl, rfl⟩))
  go_ret2
  exact ⟨rfl, On.refl _⟩
theorem rvalue_no (v : Value) (m x : Nat) (w : World) (h : Lv w v m (x : Int)) (hx : x < 4294967296 ^ m) (hk : okB m x = false ∨ 2 < m) :
    AnsE Try.prog 9 #[v] w (.tuple #[.int .u64 0, .bool false]) := by
  have HV := Lib.hid (rvalid_lv v m x w h hx)
  obtain ⟨oa, cap, rfl, -, -, -⟩ := h
  go_enter Try.func9, Try.ntmps9
  cases hb : okB m x
  · rw [hb] at HV
    clear hb hk hx
    go_wp2_with (go_at_call 11; refine HV.out.mono ?_; rintro e w' ⟨rfl, rfl⟩)
    go_ret2
    exact ⟨rfl, On.refl _⟩
  · have hm : 2 < m := by rcases hk with h | h; rw [hb] at h; cases h; exact h
    have hm2 : (2 : Int) < (m : Int) := by omega
    rw [hb] at HV
    clear hb hk hx
    go_wp2_with (go_at_call 11; refine HV.out.mono ?_; rintro e w' ⟨rfl, rfl⟩)
    go_ret2
    exact ⟨rfl, On.refl _⟩
theorem rvalue_yes (v : Value) (m x : Nat) (w : World) (h : Lv w v m (x : Int)) (hx : x < 4294967296 ^ m) (hk : okB m x = true) (hm : m ≤ 2) :
    AnsE Try.prog 9 #[v] w (.tuple #[.int .u64 (x : Int), .bool true]) := by
  have HV := Lib.hid (rvalid_lv v m x w h hx)
  obtain ⟨oa, cap, rfl, -, -, hR⟩ := h
  rw [hk] at HV
  have HR := Lib.hid hR
  have hm2 : ¬ ((2 : Int) < (m : Int)) := by omega
  have hxb : x < 18446744073709551616 := by
    have h2 : (4294967296 : Nat) ^ m ≤ 4294967296 ^ 2 := Nat.pow_le_pow_right (by decide) hm
    have h3 : (4294967296 : Nat) ^ 2 = 18446744073709551616 := by decide
    omega
  have H0 : Hid (x / 4294967296 ^ m = 0) := Nat.div_eq_of_lt hx
  clear hk hx hR
  go_enter Try.func9, Try.ntmps9
  go_wp2_with (go_at_call 11; refine HV.out.mono ?_; rintro e w' ⟨rfl, rfl⟩)
  go_loop [4, 5] (fun vv vi => ∃ (k : Nat), k ≤ m ∧ vi = .int .i64 ((k : Int) - 1) ∧ vv = .int .u64 ((x / 4294967296 ^ k : Nat) : Int)) (fun _ vi => (intOf vi + 1).toNat)
  case atStart => exact ⟨m, Nat.le_refl _, rfl, by rw [H0.out]; rfl⟩
  case round =>
    obtain ⟨k, hk, rfl, rfl⟩ := hrel
    cases k with
    | zero =>
      go_wp2
      go_ret2
      exact ⟨rfl, On.refl _⟩
    | succ k =>
      have hki : ((k + 1 : Nat) : Int) - 1 = (k : Int) := by omega
      obtain ⟨b, off, rfl, hc⟩ := HR.out k (by omega)
      have hd := dg_lt (x : Int) k
      have hE : x / 4294967296 ^ (k + 1) * 4294967296 + dg (x : Int) k = x / 4294967296 ^ k := by
        rw [dg_nat, Nat.pow_succ, ← Nat.div_div_eq_div_mul, Nat.mul_comm]; exact Nat.div_add_mod _ _
      have hle : x / 4294967296 ^ k ≤ x := Nat.div_le_self _ _
      have HE := Lib.hid hE
      generalize hq : x / 4294967296 ^ k = q at *
      have HQ := Lib.hid hq; clear hq
      generalize x / 4294967296 ^ (k + 1) = p at *
      generalize dg (x : Int) k = d at *
      have hw1 : IntKind.u64.wrap ((p : Int) * 4294967296) = (p : Int) * 4294967296 := IntWalk.u64_in _ (by omega)
      have hs : (p : Int) * 4294967296 + (d : Int) = (q : Int) := by omega
      have hw2 : IntKind.u64.wrap (q : Int) = (q : Int) := IntWalk.u64_in _ (by omega)
      have hwd : IntKind.u64.wrap (d : Int) = (d : Int) := IntWalk.u64_in _ (by omega)
      have hkm : (k : Int) < (m : Int) := by omega
      clear hE hle
      rw [hki]
      go_wp2
      go_round
      case rel => exact ⟨k, by omega, by go_num, by rw [HQ.out]⟩
      case measure => simp [intOf]
theorem value_pair (m x : Nat) (hx : x < 4294967296 ^ m) : ∃ r, (∀ v w, Lz w v m x → AnsE Try.prog 8 #[v] w r) ∧ (∀ v w, Lz w v m x → AnsE Try.prog 9 #[v] w r) ∧ ∃ z b, r = .tuple #[.int .u64 z, .bool b] := by
  by_cases h : okB m x = true ∧ m ≤ 2
  · exact ⟨_, fun v w hv => pvalue_yes v m x w hv.1 hx h.1 h.2, fun v w hv => rvalue_yes v m x w hv.1 hx h.1 h.2, _, _, rfl⟩
  · have h2 : okB m x = false ∨ 2 < m := by
      cases hb : okB m x
      · exact .inl rfl
      · exact .inr (Nat.lt_of_not_le fun hm => h ⟨hb, hm⟩)
    exact ⟨_, fun v w hv => pvalue_no v m x w hv.1 hx h2, fun v w hv => rvalue_no v m x w hv.1 hx h2, _, _, rfl⟩
end Go.Proofs.Ytdgmlmcllkgemaa
