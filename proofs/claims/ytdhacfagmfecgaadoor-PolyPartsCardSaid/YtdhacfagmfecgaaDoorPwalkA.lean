/- Package poly: length, trim, Normal, Degree: what each call returns. -/
import Derived.Test.YtdhacfagmfecgaaDoorPmem
namespace Go.Proofs.YtdhacfagmfecgaaDoor
open Go.RowKit
set_option linter.unusedVariables false

theorem normF_snoc_zero (f : Int) (l : List Nat) (x : Nat) (h : redF f x = 0) : normF f (l ++ [x]) = normF f l := by
  unfold normF; rw [List.map_append, List.map_singleton, h, strip_snoc_zero]
theorem normF_snoc_len (f : Int) (l : List Nat) (x : Nat) (h : redF f x ≠ 0) : (normF f (l ++ [x])).length = l.length + 1 := by
  unfold normF; rw [List.map_append, List.map_singleton, strip_snoc _ _ h]; simp
theorem normF_take_zero (f : Int) (l : List Nat) (k : Nat) (hk : k < l.length) (h : redF f (l.getD k 0) = 0) : normF f (l.take (k + 1)) = normF f (l.take k) := by
  rw [take_snoc l k hk]; exact normF_snoc_zero _ _ _ h
theorem normF_take_len (f : Int) (l : List Nat) (k : Nat) (hk : k < l.length) (h : redF f (l.getD k 0) ≠ 0) : (normF f (l.take (k + 1))).length = k + 1 := by
  rw [take_snoc l k hk, normF_snoc_len _ _ _ h, List.length_take]; omega
theorem strip_take_zero (l : List Nat) (k : Nat) (hk : k < l.length) (h : l.getD k 0 = 0) : strip (l.take (k + 1)) = strip (l.take k) := by
  rw [take_snoc l k hk, h]; exact strip_snoc_zero _
theorem strip_take_len (l : List Nat) (k : Nat) (hk : k < l.length) (h : l.getD k 0 ≠ 0) : strip (l.take (k + 1)) = l.take (k + 1) := by
  rw [take_snoc l k hk, strip_snoc _ _ h]

theorem length_any (f : Int) (l : List Nat) (v : Value) (w : World) (hT : Tab w) (hR : Reads w v l) :
    Calls Tryd.prog 31 #[.int .i64 f, v] w fun e w' => e = .returned (.int .i64 (((normF f l).length : Nat) : Int)) ∧ w = w' := by
  obtain ⟨hU, hL, hR⟩ := hR
  obtain ⟨a, cap, rfl⟩ : ∃ a cap, v = .slice a l.length cap := by
    rcases hR with ⟨rfl, a, cap, rfl⟩ | ⟨b, off, cap, rfl, _⟩
    · exact ⟨_, _, rfl⟩
    · exact ⟨_, _, rfl⟩
  have hc : ∀ i, i < l.length → ∃ b off, a = some ⟨b, off, none⟩ ∧ w.cell? ⟨b, off + i, none⟩ = some (.int .u64 ((l.getD i 0 : Nat) : Int)) := by
    intro i hi
    rcases hR with ⟨rfl, _⟩ | ⟨b, off, cap, he, hc⟩
    · simp at hi
    · simp only [Value.slice.injEq] at he
      exact ⟨b, off, he.1, hc i hi⟩
  clear hR
  go_enter Tryd.func31, Tryd.ntmps31
  go_hidden (go_wp2)
  go_loop [5] (fun vi => ∃ k : Nat, vi = .int .i64 k ∧ k ≤ l.length ∧ Hid (normF f (l.take k) = normF f l)) (fun vi => (intOf vi).toNat)
  case atStart => exact ⟨l.length, rfl, Nat.le_refl _, by unfold Hid; rw [List.take_length]⟩
  case round =>
    obtain ⟨k, rfl, hk, HK⟩ := hrel
    cases k with
    | zero =>
      have HZ : Hid ((normF f l).length = 0) := by unfold Hid; rw [← HK.out]; rfl
      clear hc hU
      go_wp2
      go_ret
      exact ⟨ret_nat HZ.out.symm, rfl⟩
    | succ k =>
      obtain ⟨b, off, rfl, hcell⟩ := hc k (by omega)
      have hx := hU _ (getD_mem l k (by omega))
      have hki : ((k + 1 : Nat) : Int) - 1 = (k : Int) := by omega
      by_cases hd : redF f (l.getD k 0) = 0
      · have HX : Hid (normF f (l.take k) = normF f l) := by unfold Hid; rw [← HK.out, normF_take_zero f l k (by omega) hd]
        have HD := Lib.hid hd
        clear hc hU hd
        generalize l.getD k 0 = x at *
        go_wp2_with (go_at_call 32; refine (reduce_any f x _ hT hx).mono ?_; rintro e w' ⟨rfl, rfl⟩; rw [HD.out])
        go_round
        case rel => exact ⟨k, by go_num, by omega, HX⟩
        case measure => simp [intOf]
      · have HX : Hid ((normF f l).length = k + 1) := by unfold Hid; rw [← HK.out]; exact normF_take_len f l k (by omega) hd
        have hd0 : (((redF f (l.getD k 0) : Nat) : Int) == 0) = false := by simp only [beq_eq_false_iff_ne, ne_eq]; omega
        clear hc hU hd
        generalize l.getD k 0 = x at *
        go_wp2_with (go_at_call 32; refine (reduce_any f x _ hT hx).mono ?_; rintro e w' ⟨rfl, rfl⟩)
        go_ret
        exact ⟨ret_nat HX.out.symm, rfl⟩

/-- trim, of a list that lies in memory. -/
theorem trim_rows (l : List Nat) (a : Option Addr) (cap : Nat) (w : World) (hL : l.length ≤ cap) (hcap : cap ≤ 9223372036854775807)
    (hc : ∀ i, i < l.length → ∃ b off, a = some ⟨b, off, none⟩ ∧ w.cell? ⟨b, off + i, none⟩ = some (.int .u64 ((l.getD i 0 : Nat) : Int))) :
    Calls Tryd.prog 33 #[.slice a l.length cap] w fun e w' => ((strip l = [] ∧ e = .returned (.slice none 0 0)) ∨ (e = .returned (.slice a (strip l).length (strip l).length))) ∧ w = w' := by
  go_enter Tryd.func33, Tryd.ntmps33
  go_hidden (go_wp2)
  go_loop [3] (fun vi => ∃ k : Nat, vi = .int .i64 k ∧ k ≤ l.length ∧ Hid (strip (l.take k) = strip l)) (fun vi => (intOf vi).toNat)
  case atStart => exact ⟨l.length, rfl, Nat.le_refl _, by unfold Hid; rw [List.take_length]⟩
  case round =>
    obtain ⟨k, rfl, hk, HK⟩ := hrel
    cases k with
    | zero =>
      have HZ : Hid (strip l = []) := by unfold Hid; rw [← HK.out]; rfl
      clear hc
      go_wp2
      go_ret
      exact ⟨.inl ⟨HZ.out, rfl⟩, rfl⟩
    | succ k =>
      obtain ⟨b, off, rfl, hcell⟩ := hc k (by omega)
      have hki : ((k + 1 : Nat) : Int) - 1 = (k : Int) := by omega
      by_cases hd : l.getD k 0 = 0
      · have HX : Hid (strip (l.take k) = strip l) := by unfold Hid; rw [← HK.out, strip_take_zero l k (by omega) hd]
        rw [hd] at hcell
        clear hc hd
        go_wp2
        go_round
        case rel => exact ⟨k, by go_num, by omega, HX⟩
        case measure => simp [intOf]
      · have HX : Hid ((strip l).length = k + 1) := by unfold Hid; rw [← HK.out, strip_take_len l k (by omega) hd, List.length_take]; omega
        have hd0 : (((l.getD k 0 : Nat) : Int) == 0) = false := by simp only [beq_eq_false_iff_ne, ne_eq]; omega
        clear hc hd
        generalize l.getD k 0 = x at *
        go_wp2
        go_ret
        exact ⟨.inr (by rw [HX.out]; rfl), rfl⟩
theorem trim_blk (B g : Nat) (l : List Nat) (cap : Nat) (w : World) (hL : l.length ≤ cap) (hcap : cap ≤ 9223372036854775807) (hb : Blk g w l) (hB : B ≤ g) :
    Calls Tryd.prog 33 #[.slice (some ⟨g, 0, none⟩) l.length cap] w fun e w' => (∃ v, e = .returned v ∧ Fre B w v (strip l)) ∧ w = w' := by
  refine (trim_rows l _ cap w hL hcap fun i hi => ⟨g, 0, rfl, by rw [Nat.zero_add]; exact hb.cell i hi⟩).mono ?_
  rintro e w' ⟨⟨h1, rfl⟩ | rfl, rfl⟩
  · exact ⟨⟨_, rfl, .inl ⟨h1, rfl⟩⟩, rfl⟩
  · exact ⟨⟨_, rfl, .inr ⟨g, rfl, hB, (hb.shorter (strip l).length).eq (strip_eq_take l).symm⟩⟩, rfl⟩
theorem trim_fre (B : Nat) (v : Value) (l : List Nat) (w : World) (hL : l.length ≤ 9223372036854775807) (h : Fre B w v l) :
    Calls Tryd.prog 33 #[v] w fun e w' => (∃ v, e = .returned v ∧ Fre B w v (strip l)) ∧ w = w' := by
  rcases h with ⟨rfl, rfl⟩ | ⟨g, rfl, hg, hb⟩
  · refine (trim_rows [] none 0 w (by simp) (by omega) fun i hi => by simp at hi).mono ?_
    rintro e w' ⟨⟨h1, rfl⟩ | rfl, rfl⟩
    · exact ⟨⟨_, rfl, .inl ⟨h1, rfl⟩⟩, rfl⟩
    · exact ⟨⟨_, rfl, .inl ⟨rfl, rfl⟩⟩, rfl⟩
  · exact trim_blk B g l _ w (Nat.le_refl _) hL hb hg

theorem degree_any (f : Int) (l : List Nat) (v : Value) (w : World) (hT : Tab w) (hR : Reads w v l) :
    Calls Tryd.prog 9 #[.int .i64 f, v] w fun e w' => e = .returned (.int .i64 (((normF f l).length : Int) - 1)) ∧ w = w' := by
  have hn : (normF f l).length ≤ 9223372036854775807 := by have := normF_len f l; have := hR.2.1; omega
  have HR := Lib.hid hR; clear hR
  go_enter Tryd.func9, Tryd.ntmps9
  go_wp2_with (go_at_call 31; refine (length_any f l _ _ hT HR.out).mono ?_; rintro e w' ⟨rfl, rfl⟩)
  go_ret
  exact ⟨rfl, rfl⟩
end Go.Proofs.YtdhacfagmfecgaaDoor
