/- Nat, ValidNat and gcd of package ratio, and the calls of natural numbers. -/
import Derived.Test.YtdgmlmcllkgemaaDiv
namespace Go.Proofs.Ytdgmlmcllkgemaa
open Go.RowKit
set_option linter.unusedVariables false

/-- The first two cells of a new list of two. -/
theorem two_cells (w : World) (a b : Nat) (ha : a < 4294967296) (hb : b < 4294967296) : Lv (w.alloc (.cells #[.int .u32 (a : Int), .int .u32 (b : Int)] 54)) (.slice (some ⟨w.heap.size, 0, none⟩) 2 2) 2 ((a + 4294967296 * b : Nat) : Int) := by
  refine ⟨_, _, rfl, by omega, by omega, fun k hk => ⟨_, _, rfl, ?_⟩⟩
  rw [Nat.zero_add, World.cell?_alloc_new]
  obtain rfl | rfl : k = 0 ∨ k = 1 := by omega
  · have : dg ((a + 4294967296 * b : Nat) : Int) 0 = a := by rw [dg_nat]; simp; omega
    rw [this]; rfl
  · have : dg ((a + 4294967296 * b : Nat) : Int) 1 = b := by rw [dg_nat]; simp; omega
    rw [this]; rfl
theorem nat_any (n : Nat) (w : World) (hn : n ≤ 18446744073709551615) :
    Calls Try.prog 32 #[.int .u64 (n : Int)] w fun e w' => ∃ v, e = .returned v ∧ Nv w' v n ∧ On w w' := by
  have h1 : (n : Int) % 4294967296 = ((n % 4294967296 : Nat) : Int) := by omega
  have h2 : (n : Int) / 4294967296 % 4294967296 = ((n / 4294967296 : Nat) : Int) := by omega
  have h3 : (n : Int) / 4294967296 = ((n / 4294967296 : Nat) : Int) := by omega
  have HE : Hid (n % 4294967296 + 4294967296 * (n / 4294967296) = n) := by unfold Hid; omega
  have HL : Hid (n < 4294967296 ^ 2) := by unfold Hid; simp; omega
  have HB1 : Hid (n % 4294967296 < 4294967296) := Nat.mod_lt _ (by decide)
  have HB2 : Hid (n / 4294967296 < 4294967296) := by unfold Hid; omega
  have H := Lib.hid (two_cells w (n % 4294967296) (n / 4294967296) HB1.out HB2.out)
  rw [HE.out] at H
  generalize hx : n % 4294967296 = a at *
  generalize hy : n / 4294967296 = b at *
  clear hx hy
  go_enter Try.func32, Try.ntmps32
  go_wp2_with (go_at_call 73; refine (trim_lv _ 2 n _ H.out HL.out).mono ?_; rintro e w5 ⟨⟨v', rfl, hv'⟩, rfl⟩; have HV := Lib.hid hv'; clear hv')
  go_ret
  exact ⟨_, rfl, HV.out, (On.refl w).alloc _⟩
theorem number_nv (v : Value) (x : Nat) (w : World) (h : Nv w v x) (hx : nl x ≤ 2) :
    Calls Try.prog 51 #[v] w fun e w' => e = .returned (.int .u64 (x : Int)) ∧ w = w' := by
  obtain ⟨oa, cap, rfl, h1, h2, h3⟩ := h
  exact number_any oa (nl x) cap x w hx h3 (lt_nl x)

/-- The list is a valid number. -/
def okB (m x : Nat) : Bool := decide (m ≤ 64 ∧ m = nl x)
theorem okB_nl (x : Nat) : okB (nl x) x = decide (nl x ≤ 64) := by unfold okB; simp
theorem valid_lv (v : Value) (m x : Nat) (w : World) (h : Lv w v m (x : Int)) (hx : x < 4294967296 ^ m) :
    Calls Try.prog 10 #[v] w fun e w' => e = .returned (.bool (okB m x)) ∧ w = w' := by
  obtain ⟨oa, cap, rfl, h1, h2, hR⟩ := h
  have HX := Lib.hid hx; clear hx
  by_cases hm : m ≤ 64
  · cases m with
    | zero =>
      have HO : Hid (okB 0 x = true) := by have h : x = 0 := by have := HX.out; simpa using this
                                           subst h; unfold Hid okB; simp [nl_zero]
      clear hR
      go_enter Try.func10, Try.ntmps10
      go_wp2
      go_ret
      exact ⟨by rw [HO.out]; rfl, rfl⟩
    | succ k =>
      obtain ⟨b, off, rfl, hc⟩ := hR k (by omega)
      have hki : ((k + 1 : Nat) : Int) - 1 = (k : Int) := by omega
      have hk0 : (((k + 1 : Nat) : Int) == 0) = false := by simp; omega
      have hke : decide (((k + 1 : Nat) : Int) ≤ 64) = true := by simp; omega
      by_cases hd : dg (x : Int) k = 0
      · have HO : Hid (okB (k + 1) x = false) := by
          have h1 := (nl_le _ _).2 (trim_step HX.out hd)
          unfold Hid okB; simp; omega
        rw [hd] at hc
        clear hR hd
        go_enter Try.func10, Try.ntmps10
        go_wp2
        go_ret
        exact ⟨by rw [HO.out]; rfl, rfl⟩
      · have HO : Hid (okB (k + 1) x = true) := by
          have h1 := trim_stop HX.out hd
          unfold Hid okB; simp; omega
        have hd0 : (((dg (x : Int) k : Nat) : Int) == 0) = false := by simp; omega
        clear hR hd
        generalize dg (x : Int) k = d at *
        go_enter Try.func10, Try.ntmps10
        go_wp2
        go_ret
        exact ⟨ret_bool (by rw [HO.out]; simp only [bne, hd0, Bool.not_false, Bool.or_true]), rfl⟩
  · have HO : Hid (okB m x = false) := by unfold Hid okB; simp; omega
    have hmd : decide ((m : Int) ≤ 64) = false := by simp; omega
    clear hR
    go_enter Try.func10, Try.ntmps10
    go_wp2
    go_ret
    exact ⟨by rw [HO.out]; rfl, rfl⟩

theorem validNats_lv (va vb : Value) (m x n y : Nat) (w : World) (ha : Lv w va m (x : Int)) (hx : x < 4294967296 ^ m) (hb : Lv w vb n (y : Int)) (hy : y < 4294967296 ^ n) :
    Calls Try.prog 52 #[va, vb] w fun e w' => e = .returned (.bool (okB m x && okB n y)) ∧ w = w' := by
  have HA := Lib.hid ha; have HB := Lib.hid hb; have HX := Lib.hid hx; have HY := Lib.hid hy
  clear ha hb hx hy
  cases hv : okB m x
  · have HV := Lib.hid hv; clear hv
    go_enter Try.func52, Try.ntmps52
    go_wp2_with (go_at_call 10; ((with_reducible refine (valid_lv va m x w HA.out HX.out).mono ?_)); rw [HV.out]; rintro e w' ⟨rfl, rfl⟩)
    go_ret
    exact ⟨rfl, rfl⟩
  · have HV := Lib.hid hv; clear hv
    go_enter Try.func52, Try.ntmps52
    go_wp2_with (first
      | (go_at_call 10; ((with_reducible refine (valid_lv va m x w HA.out HX.out).mono ?_)); rw [HV.out]; rintro e w' ⟨rfl, rfl⟩)
      | (go_at_call 10; ((with_reducible refine (valid_lv vb n y w HB.out HY.out).mono ?_)); rintro e w' ⟨rfl, rfl⟩))
    go_ret
    exact ⟨rfl, rfl⟩

/-- The number that a slice reads as. -/
def natOf (w : World) : Value → Nat
  | .slice (some ⟨b, off, _⟩) len _ => val ((List.range len).map fun k => match w.cell? ⟨b, off + k, none⟩ with
    | some (.int _ z) => z.toNat
    | _ => 0)
  | _ => 0
theorem natOf_nv {w : World} {v : Value} {n : Nat} (h : Nv w v n) : natOf w v = n := by
  obtain ⟨oa, cap, rfl, _, _, hR⟩ := h
  rcases Nat.eq_zero_or_pos n with h0 | h0
  · subst h0
    rw [nl_zero] at *
    cases oa with
    | none => rfl
    | some a => obtain ⟨b, off, sp⟩ := a; rfl
  · obtain ⟨b, off, rfl, _⟩ := hR 0 (nl_pos h0)
    have hl : ((List.range (nl n)).map fun k => match w.cell? ⟨b, off + k, none⟩ with
        | some (.int _ z) => z.toNat
        | _ => 0) = (List.range (nl n)).map (fun k => dg (n : Int) k) := by
      refine List.map_congr_left fun k hk => ?_
      obtain ⟨b', off', h1, h2⟩ := hR k (List.mem_range.1 hk)
      simp only [Option.some.injEq, Addr.mk.injEq] at h1
      obtain ⟨rfl, rfl, -⟩ := h1
      rw [h2]; simp
    show val _ = n
    rw [hl]
    have hlim : ∀ x ∈ (List.range (nl n)).map (fun k => dg (n : Int) k), x < 4294967296 := by
      intro x hx; obtain ⟨k, _, rfl⟩ := List.mem_map.1 hx; exact dg_lt _ _
    have hv := val_lt _ hlim
    have hd := dg_val _ hlim
    simp only [List.length_map, List.length_range] at hv hd
    refine nat_eq_of_dg hv (lt_nl n) fun k hk => ?_
    rw [hd k hk, List.getD_eq_getElem?_getD, List.getElem?_map, List.getElem?_range hk]; rfl
set_option maxHeartbeats 1000000 in
theorem gcd_any (va vb : Value) (x y : Nat) (w : World) (ha : Nv w va x) (hb : Nv w vb y) (hx : nl x ≤ 1000000) (hy : nl y ≤ 1000000) :
    Calls Try.prog 68 #[va, vb] w fun e w' => ∃ v, e = .returned v ∧ Nv w' v (Nat.gcd x y) ∧ On w w' := by
  have HS : Hid (Nv w va x ∧ Nv w vb y ∧ On w w ∧ Nat.gcd x y = Nat.gcd x y) := ⟨ha, hb, On.refl _, rfl⟩
  clear ha hb
  go_enter Try.func68, Try.ntmps68
  go_hidden (go_wp2)
  go_loopw [0, 1] (fun v0 v1 wr => ∃ A B : Nat, nl A ≤ 1000000 ∧ nl B ≤ 1000000 ∧ Hid (Nv wr v0 A ∧ Nv wr v1 B ∧ On w wr ∧ Nat.gcd A B = Nat.gcd x y)) (fun _ v1 wr => natOf wr v1)
  case atStart => exact ⟨x, y, hx, hy, ⟨HS.out.1, HS.out.2.1, HS.out.2.2.1, rfl⟩⟩
  case round =>
    clear HS
    obtain ⟨A, B, hA, hB, HW⟩ := hrel
    obtain ⟨oa, ca, rfl, -, -, -⟩ := HW.out.1
    obtain ⟨ob, cb, rfl, -, -, -⟩ := HW.out.2.1
    have HM := Lib.hid (natOf_nv HW.out.2.1)
    rcases Nat.eq_zero_or_pos B with h0 | h0
    · subst h0
      have HG : Hid (A = Nat.gcd x y) := by have := HW.out.2.2.2; rwa [Nat.gcd_zero_right] at this
      have hz := nl_zero
      go_wp2_with (go_at_call 81; refine (copied_any _ (nl A) A wr HW.out.1 (lt_nl A) (by omega)).mono ?_; rintro e w3 ⟨v, rfl, hv, hOn, -, -⟩; have HV := Lib.hid hv; have HOn := Lib.hid hOn; clear hv hOn)
      go_ret
      exact ⟨_, rfl, by rw [← HG.out]; exact HV.out, HW.out.2.2.1.trans HOn.out⟩
    · have hn0 := nl_pos h0
      have HG2 : Hid (Nat.gcd B (A % B) = Nat.gcd x y) := by unfold Hid; rw [← HW.out.2.2.2, Nat.gcd_comm A B, Nat.gcd_rec B A, Nat.gcd_comm]
      have hml := Nat.mod_lt A h0
      have hml2 := nl_mono (Nat.le_of_lt hml)
      by_cases h2 : nl A ≤ 2 ∧ nl B ≤ 2
      · obtain ⟨h2a, h2b⟩ := h2
        have hAb : A ≤ 18446744073709551615 := by have := (nl_le _ _).1 h2a; simp at this; omega
        have hBb : B ≤ 18446744073709551615 := by have := (nl_le _ _).1 h2b; simp at this; omega
        have hgb : Nat.gcd A B ≤ 18446744073709551615 := Nat.le_trans (Nat.gcd_le_right _ h0) hBb
        have HNA := Lib.hid (lt_nl A)
        clear hml hml2
        have HOW := Lib.hid HW.out.2.2.1
        go_wp2_with (first
          | (go_at_call 51; ((with_reducible refine (number_nv (.slice oa (nl A) ca) A wr HW.out.1 h2a).mono ?_)); rintro e w' ⟨rfl, rfl⟩)
          | (go_at_call 51; ((with_reducible refine (number_nv (.slice ob (nl B) cb) B wr HW.out.2.1 h2b).mono ?_)); rintro e w' ⟨rfl, rfl⟩)
          | (go_at_call 90; refine (smallGcd_any A B _ hAb hBb).mono ?_; rintro e w4 ⟨rfl, n, hn⟩; have HN := Lib.hid hn; clear hn)
          | (go_at_call 32; refine (nat_any (Nat.gcd A B) _ hgb).mono ?_; rintro e w5 ⟨v, rfl, hv, hOn⟩; have HV := Lib.hid hv; have HOn := Lib.hid hOn; clear hv hOn))
        go_ret
        exact ⟨_, rfl, by rw [← HW.out.2.2.2]; exact HV.out, (by rw [HN.out] at HOn; exact (HOW.out.drewN _).trans HOn.out)⟩
      · have h3 : ¬ nl A ≤ 2 ∨ (nl A ≤ 2 ∧ ¬ nl B ≤ 2) := by omega
        have HML := Lib.hid hml; clear hml h2
        rcases h3 with h3 | ⟨h3, h4⟩
        · have hd1 : decide (((nl A : Nat) : Int) ≤ 2) = false := by simp; omega
          clear h3
          go_wp2_with (go_at_call 56; refine (divide_any _ _ A B wr HW.out.1 HW.out.2.1 h0 hA).mono ?_; rintro e w4 ⟨vq, vr, rfl, -, hr, hOn⟩; have HR := Lib.hid hr; have HOn := Lib.hid hOn; clear hr hOn)
          go_roundw
          case rel => exact ⟨B, A % B, hB, by omega, HW.out.2.1.on HOn.out, HR.out, HW.out.2.2.1.trans HOn.out, HG2.out⟩
          case measure => rw [natOf_nv HR.out, HM.out]; exact HML.out
        · have hd1 : decide (((nl A : Nat) : Int) ≤ 2) = true := by simp; omega
          have hd2 : decide (((nl B : Nat) : Int) ≤ 2) = false := by simp; omega
          clear h3 h4
          go_wp2_with (go_at_call 56; refine (divide_any _ _ A B wr HW.out.1 HW.out.2.1 h0 hA).mono ?_; rintro e w4 ⟨vq, vr, rfl, -, hr, hOn⟩; have HR := Lib.hid hr; have HOn := Lib.hid hOn; clear hr hOn)
          go_roundw
          case rel => exact ⟨B, A % B, hB, by omega, HW.out.2.1.on HOn.out, HR.out, HW.out.2.2.1.trans HOn.out, HG2.out⟩
          case measure => rw [natOf_nv HR.out, HM.out]; exact HML.out
end Go.Proofs.Ytdgmlmcllkgemaa
