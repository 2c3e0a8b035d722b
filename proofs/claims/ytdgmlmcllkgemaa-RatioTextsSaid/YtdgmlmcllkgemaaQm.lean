/- Read of the document's own; and beside the program's: the same answers. -/
import Derived.Test.YtdgmlmcllkgemaaQl
namespace Go.Proofs.Ytdgmlmcllkgemaa
open Go.RowKit
set_option linter.unusedVariables false

theorem slash_at (a b : List UInt8) : (∀ k (h : k < (a ++ 47 :: b).length), k < a.length → (47 : UInt8) ∉ a → (a ++ 47 :: b)[k].toNat ≠ 47) ∧ ∀ h : a.length < (a ++ 47 :: b).length, (a ++ 47 :: b)[a.length].toNat = 47 := by
  refine ⟨fun k h hk hn e => hn ?_, fun h => ?_⟩
  · rw [List.getElem_append_left hk] at e
    have : a[k] = 47 := UInt8.toNat_inj.1 (by rw [e]; rfl)
    rw [← this]; exact List.getElem_mem hk
  · rw [List.getElem_append_right (Nat.le_refl _)]; simp
theorem slash_runs (a b : List UInt8) (hl : (a ++ 47 :: b).length ≤ 9223372036854775807) (W : World) :
    (Instr.slice 9 (.string ⟨(a ++ 47 :: b).toArray⟩) none (some (.int .i64 (a.length : Int))) none).run Try.prog W = .ok (.string ⟨a.toArray⟩) W ∧
    (Instr.slice 9 (.string ⟨(a ++ 47 :: b).toArray⟩) (some (.int .i64 ((a.length : Int) + 1))) none none).run Try.prog W = .ok (.string ⟨b.toArray⟩) W := by
  have hlen : (a ++ 47 :: b).length = a.length + 1 + b.length := by rw [List.length_append, List.length_cons]; omega
  have hs : (⟨(a ++ 47 :: b).toArray⟩ : ByteArray).size = a.length + 1 + b.length := hlen
  constructor
  · rw [run_slice_string_to_if (P := Try.prog) (w := W) 9 _ .i64 _ Try.underlying9]
    rw [if_pos (by rw [hs]; omega)]
    rw [Int.toNat_natCast, extract_str]
    simp
  · rw [run_slice_string_from_if (P := Try.prog) (w := W) 9 _ .i64 _ Try.underlying9]
    rw [if_pos (by rw [hs]; omega)]
    rw [show ((a.length : Int) + 1).toNat = a.length + 1 by omega, extract_str, hs]
    have e : ((a ++ 47 :: b).take (a.length + 1 + b.length)).drop (a.length + 1) = b := by
      rw [List.take_of_length_le (by omega), show a ++ 47 :: b = (a ++ [47]) ++ b by simp, List.drop_left' (by simp)]
    rw [e]
set_option maxHeartbeats 2000000 in
theorem rread_a (a b : List UInt8) (w : World) (h47 : (47 : UInt8) ∉ a) (hl : (a ++ 47 :: b).length ≤ 9223372036854775806) (ta : textB a = false) :
    AnsF Try.prog 31 #[str (a ++ 47 :: b)] w 0 0 4 := by
  have hla : a.length ≤ 9223372036854775806 := by rw [List.length_append, List.length_cons] at hl; omega
  have hlb : b.length ≤ 9223372036854775806 := by rw [List.length_append, List.length_cons] at hl; omega
  have hab : a.length < (a ++ 47 :: b).length := by rw [List.length_append, List.length_cons]; omega
  have HIa := Lib.hid (fun w0 => rnatural_any a w0 (by omega))
  have HIb := Lib.hid (fun w0 => rnatural_any b w0 (by omega))
  rw [ta] at HIa
  have HS1 := Lib.hid (fun k h hk => (slash_at a b).1 k h hk h47)
  have HS2 := Lib.hid ((slash_at a b).2 hab)
  have hr1 := fun W => (slash_runs a b (by omega) W).1
  have hr2 := fun W => (slash_runs a b (by omega) W).2
  have HO1 : Hid (On w (w.alloc (.cells #[.slice none 0 0, .slice none 0 0] 41))) := (On.refl w).alloc _
  have HW1 : Hid (On (w.alloc (.cells #[.slice none 0 0, .slice none 0 0] 41)) (w.alloc (.cells #[.slice none 0 0, .slice none 0 0] 41))) := On.refl _
  unfold str at *
  generalize (a ++ 47 :: b) = l at *
  have hs : (⟨l.toArray⟩ : ByteArray).size = l.length := rfl
  generalize (⟨a.toArray⟩ : ByteArray) = sa at *
  generalize (⟨b.toArray⟩ : ByteArray) = sb at *
  generalize a.length = n at *
  clear h47
  go_enter Try.func31, Try.ntmps31
  go_wp2_with fail
  go_loop [4] (fun vi => ∃ k : Nat, vi = .int .i64 k ∧ k ≤ n) (fun vi => n - (intOf vi).toNat)
  case atStart => exact ⟨0, rfl, Nat.zero_le _⟩
  case round =>
    obtain ⟨k, rfl, hk⟩ := hrel
    by_cases hkn : k < n
    · have hlt : k < l.length := by omega
      obtain ⟨c, hc⟩ : ∃ c : Nat, (⟨l.toArray⟩ : ByteArray)[k].toNat = c := ⟨_, rfl⟩
      have hc0 : c ≠ 47 := by rw [← hc]; exact HS1.out k hlt hkn
      have hc1 : ((c : Int) == 47) = false := by simp; omega
      have HKN := Lib.hid hkn
      clear hr1 hr2 hkn hk hc0
      go_wp2_with fail
      go_round
      case rel => exact ⟨k + 1, by go_num, by have := HKN.out; omega⟩
      case measure => simp [intOf]; have := HKN.out; omega
    · obtain rfl : k = n := by omega
      have hlt : k < l.length := hab
      have hc : (⟨l.toArray⟩ : ByteArray)[k].toNat = 47 := HS2.out
      have hne : ((k : Int) == (l.length : Int)) = false := by simp; omega
      clear hkn hk
      go_wp2_with fail
      refine (HIa.out _).mono ?_
      rintro e w' ⟨rfl, rfl⟩
      go_wp2
      first | go_ret | go_returns | go_ret2
      exact ⟨⟨_, rfl, Fv.zero _⟩, (On.refl w).alloc _⟩
set_option maxHeartbeats 2000000 in
theorem rread_b (a b : List UInt8) (w : World) (h47 : (47 : UInt8) ∉ a) (hl : (a ++ 47 :: b).length ≤ 9223372036854775806) (ta : textB a = true) (tb : textB b = false) :
    AnsF Try.prog 31 #[str (a ++ 47 :: b)] w 0 0 4 := by
  have hla : a.length ≤ 9223372036854775806 := by rw [List.length_append, List.length_cons] at hl; omega
  have hlb : b.length ≤ 9223372036854775806 := by rw [List.length_append, List.length_cons] at hl; omega
  have hab : a.length < (a ++ 47 :: b).length := by rw [List.length_append, List.length_cons]; omega
  have HIa := Lib.hid (fun w0 => rnatural_any a w0 (by omega))
  have HIb := Lib.hid (fun w0 => rnatural_any b w0 (by omega))
  rw [ta] at HIa
  rw [tb] at HIb
  have HS1 := Lib.hid (fun k h hk => (slash_at a b).1 k h hk h47)
  have HS2 := Lib.hid ((slash_at a b).2 hab)
  have hr1 := fun W => (slash_runs a b (by omega) W).1
  have hr2 := fun W => (slash_runs a b (by omega) W).2
  have HO1 : Hid (On w (w.alloc (.cells #[.slice none 0 0, .slice none 0 0] 41))) := (On.refl w).alloc _
  have HW1 : Hid (On (w.alloc (.cells #[.slice none 0 0, .slice none 0 0] 41)) (w.alloc (.cells #[.slice none 0 0, .slice none 0 0] 41))) := On.refl _
  unfold str at *
  generalize (a ++ 47 :: b) = l at *
  have hs : (⟨l.toArray⟩ : ByteArray).size = l.length := rfl
  generalize (⟨a.toArray⟩ : ByteArray) = sa at *
  generalize (⟨b.toArray⟩ : ByteArray) = sb at *
  generalize a.length = n at *
  clear h47
  go_enter Try.func31, Try.ntmps31
  go_wp2_with fail
  go_loop [4] (fun vi => ∃ k : Nat, vi = .int .i64 k ∧ k ≤ n) (fun vi => n - (intOf vi).toNat)
  case atStart => exact ⟨0, rfl, Nat.zero_le _⟩
  case round =>
    obtain ⟨k, rfl, hk⟩ := hrel
    by_cases hkn : k < n
    · have hlt : k < l.length := by omega
      obtain ⟨c, hc⟩ : ∃ c : Nat, (⟨l.toArray⟩ : ByteArray)[k].toNat = c := ⟨_, rfl⟩
      have hc0 : c ≠ 47 := by rw [← hc]; exact HS1.out k hlt hkn
      have hc1 : ((c : Int) == 47) = false := by simp; omega
      have HKN := Lib.hid hkn
      clear hr1 hr2 hkn hk hc0
      go_wp2_with fail
      go_round
      case rel => exact ⟨k + 1, by go_num, by have := HKN.out; omega⟩
      case measure => simp [intOf]; have := HKN.out; omega
    · obtain rfl : k = n := by omega
      have hlt : k < l.length := hab
      have hc : (⟨l.toArray⟩ : ByteArray)[k].toNat = 47 := HS2.out
      have hne : ((k : Int) == (l.length : Int)) = false := by simp; omega
      clear hkn hk
      go_wp2_with fail
      refine (HIa.out _).mono ?_
      rintro e w' ⟨rfl, rfl⟩
      go_wp2_with fail
      refine (HIb.out _).mono ?_
      rintro e w' ⟨rfl, rfl⟩
      go_wp2
      first | go_ret | go_returns | go_ret2
      exact ⟨⟨_, rfl, Fv.zero _⟩, (On.refl w).alloc _⟩
set_option maxHeartbeats 2000000 in
theorem rread_e1 (a b : List UInt8) (w : World) (h47 : (47 : UInt8) ∉ a) (hl : (a ++ 47 :: b).length ≤ 9223372036854775806) (N : Nat) (ta : textB a = true) (tb : textB b = true) (hpa : ∀ w0, AnsU Try.prog 29 #[str a] w0 N 3) :
    AnsF Try.prog 31 #[str (a ++ 47 :: b)] w 0 0 3 := by
  have hla : a.length ≤ 9223372036854775806 := by rw [List.length_append, List.length_cons] at hl; omega
  have hlb : b.length ≤ 9223372036854775806 := by rw [List.length_append, List.length_cons] at hl; omega
  have hab : a.length < (a ++ 47 :: b).length := by rw [List.length_append, List.length_cons]; omega
  have HIa := Lib.hid (fun w0 => rnatural_any a w0 (by omega))
  have HIb := Lib.hid (fun w0 => rnatural_any b w0 (by omega))
  rw [ta] at HIa
  rw [tb] at HIb
  have HS1 := Lib.hid (fun k h hk => (slash_at a b).1 k h hk h47)
  have HS2 := Lib.hid ((slash_at a b).2 hab)
  have hr1 := fun W => (slash_runs a b (by omega) W).1
  have hr2 := fun W => (slash_runs a b (by omega) W).2
  have HO1 : Hid (On w (w.alloc (.cells #[.slice none 0 0, .slice none 0 0] 41))) := (On.refl w).alloc _
  have HW1 : Hid (On (w.alloc (.cells #[.slice none 0 0, .slice none 0 0] 41)) (w.alloc (.cells #[.slice none 0 0, .slice none 0 0] 41))) := On.refl _
  unfold str at *
  generalize (a ++ 47 :: b) = l at *
  have hs : (⟨l.toArray⟩ : ByteArray).size = l.length := rfl
  generalize (⟨a.toArray⟩ : ByteArray) = sa at *
  generalize (⟨b.toArray⟩ : ByteArray) = sb at *
  generalize a.length = n at *
  clear h47
  have HPa := Lib.hid hpa
  clear hpa
  go_enter Try.func31, Try.ntmps31
  go_wp2_with fail
  go_loop [4] (fun vi => ∃ k : Nat, vi = .int .i64 k ∧ k ≤ n) (fun vi => n - (intOf vi).toNat)
  case atStart => exact ⟨0, rfl, Nat.zero_le _⟩
  case round =>
    obtain ⟨k, rfl, hk⟩ := hrel
    by_cases hkn : k < n
    · have hlt : k < l.length := by omega
      obtain ⟨c, hc⟩ : ∃ c : Nat, (⟨l.toArray⟩ : ByteArray)[k].toNat = c := ⟨_, rfl⟩
      have hc0 : c ≠ 47 := by rw [← hc]; exact HS1.out k hlt hkn
      have hc1 : ((c : Int) == 47) = false := by simp; omega
      have HKN := Lib.hid hkn
      clear hr1 hr2 hkn hk hc0
      go_wp2_with fail
      go_round
      case rel => exact ⟨k + 1, by go_num, by have := HKN.out; omega⟩
      case measure => simp [intOf]; have := HKN.out; omega
    · obtain rfl : k = n := by omega
      have hlt : k < l.length := hab
      have hc : (⟨l.toArray⟩ : ByteArray)[k].toNat = 47 := HS2.out
      have hne : ((k : Int) == (l.length : Int)) = false := by simp; omega
      clear hkn hk
      go_wp2_with fail
      refine (HIa.out _).mono ?_
      rintro e w' ⟨rfl, rfl⟩
      go_wp2_with fail
      refine (HIb.out _).mono ?_
      rintro e w' ⟨rfl, rfl⟩
      go_wp2_with fail
      refine (HPa.out _).mono ?_
      rintro e w2 ⟨⟨va, rfl, hva⟩, hO⟩
      have HVA := Lib.hid hva; have HO2 := Lib.hid (HW1.out.trans hO)
      clear hva hO
      obtain ⟨k1, k2, k3, k4, k5, k6, k7⟩ := res_facts HO2.out (.slice none 0 0) (.slice none 0 0)
      go_wp2
      (try simp only [Exit.inBlock, Exit.then])
      refine bodyPost_ret (by simp [results, Try.results31, go_sem, k6, k7]; try rfl) rfl ?_
      exact ⟨⟨_, rfl, (res_end HO2.out (Nv.nil _) (Nv.nil _)).1⟩, (res_end HO2.out (Nv.nil _) (Nv.nil _)).2⟩
set_option maxHeartbeats 2000000 in
theorem rread_e2 (a b : List UInt8) (w : World) (h47 : (47 : UInt8) ∉ a) (hl : (a ++ 47 :: b).length ≤ 9223372036854775806) (A N : Nat) (ta : textB a = true) (tb : textB b = true) (hpa : ∀ w0, AnsU Try.prog 29 #[str a] w0 A 0) (hpb : ∀ w0, AnsU Try.prog 29 #[str b] w0 N 3) :
    AnsF Try.prog 31 #[str (a ++ 47 :: b)] w 0 0 3 := by
  have hla : a.length ≤ 9223372036854775806 := by rw [List.length_append, List.length_cons] at hl; omega
  have hlb : b.length ≤ 9223372036854775806 := by rw [List.length_append, List.length_cons] at hl; omega
  have hab : a.length < (a ++ 47 :: b).length := by rw [List.length_append, List.length_cons]; omega
  have HIa := Lib.hid (fun w0 => rnatural_any a w0 (by omega))
  have HIb := Lib.hid (fun w0 => rnatural_any b w0 (by omega))
  rw [ta] at HIa
  rw [tb] at HIb
  have HS1 := Lib.hid (fun k h hk => (slash_at a b).1 k h hk h47)
  have HS2 := Lib.hid ((slash_at a b).2 hab)
  have hr1 := fun W => (slash_runs a b (by omega) W).1
  have hr2 := fun W => (slash_runs a b (by omega) W).2
  have HO1 : Hid (On w (w.alloc (.cells #[.slice none 0 0, .slice none 0 0] 41))) := (On.refl w).alloc _
  have HW1 : Hid (On (w.alloc (.cells #[.slice none 0 0, .slice none 0 0] 41)) (w.alloc (.cells #[.slice none 0 0, .slice none 0 0] 41))) := On.refl _
  unfold str at *
  generalize (a ++ 47 :: b) = l at *
  have hs : (⟨l.toArray⟩ : ByteArray).size = l.length := rfl
  generalize (⟨a.toArray⟩ : ByteArray) = sa at *
  generalize (⟨b.toArray⟩ : ByteArray) = sb at *
  generalize a.length = n at *
  clear h47
  have HPa := Lib.hid hpa
  clear hpa
  have HPb := Lib.hid hpb
  clear hpb
  go_enter Try.func31, Try.ntmps31
  go_wp2_with fail
  go_loop [4] (fun vi => ∃ k : Nat, vi = .int .i64 k ∧ k ≤ n) (fun vi => n - (intOf vi).toNat)
  case atStart => exact ⟨0, rfl, Nat.zero_le _⟩
  case round =>
    obtain ⟨k, rfl, hk⟩ := hrel
    by_cases hkn : k < n
    · have hlt : k < l.length := by omega
      obtain ⟨c, hc⟩ : ∃ c : Nat, (⟨l.toArray⟩ : ByteArray)[k].toNat = c := ⟨_, rfl⟩
      have hc0 : c ≠ 47 := by rw [← hc]; exact HS1.out k hlt hkn
      have hc1 : ((c : Int) == 47) = false := by simp; omega
      have HKN := Lib.hid hkn
      clear hr1 hr2 hkn hk hc0
      go_wp2_with fail
      go_round
      case rel => exact ⟨k + 1, by go_num, by have := HKN.out; omega⟩
      case measure => simp [intOf]; have := HKN.out; omega
    · obtain rfl : k = n := by omega
      have hlt : k < l.length := hab
      have hc : (⟨l.toArray⟩ : ByteArray)[k].toNat = 47 := HS2.out
      have hne : ((k : Int) == (l.length : Int)) = false := by simp; omega
      clear hkn hk
      go_wp2_with fail
      refine (HIa.out _).mono ?_
      rintro e w' ⟨rfl, rfl⟩
      go_wp2_with fail
      refine (HIb.out _).mono ?_
      rintro e w' ⟨rfl, rfl⟩
      go_wp2_with fail
      refine (HPa.out _).mono ?_
      rintro e w2 ⟨⟨va, rfl, hva⟩, hO⟩
      have HVA := Lib.hid hva; have HO2 := Lib.hid (HW1.out.trans hO)
      clear hva hO
      go_wp2_with fail
      refine (HPb.out w2).mono ?_
      rintro e w3 ⟨⟨vb, rfl, hvb⟩, hO⟩
      have HVB := Lib.hid hvb; have HVA3 := Lib.hid (HVA.out.on hO); have HO3 := Lib.hid (HO2.out.trans hO)
      clear hvb hO
      obtain ⟨k1, k2, k3, k4, k5, k6, k7⟩ := res_facts HO3.out (.slice none 0 0) (.slice none 0 0)
      go_wp2
      (try simp only [Exit.inBlock, Exit.then])
      refine bodyPost_ret (by simp [results, Try.results31, go_sem, k6, k7]; try rfl) rfl ?_
      exact ⟨⟨_, rfl, (res_end HO3.out (Nv.nil _) (Nv.nil _)).1⟩, (res_end HO3.out (Nv.nil _) (Nv.nil _)).2⟩
set_option maxHeartbeats 2000000 in
theorem rread_ok (a b : List UInt8) (w : World) (h47 : (47 : UInt8) ∉ a) (hl : (a ++ 47 :: b).length ≤ 9223372036854775806) (A B p q : Nat) (c : Int) (ta : textB a = true) (tb : textB b = true) (hpa : ∀ w0, AnsU Try.prog 29 #[str a] w0 A 0) (hpb : ∀ w0, AnsU Try.prog 29 #[str b] w0 B 0) (hnew : ∀ va vb w0, Nu w0 va A → Nu w0 vb B → AnsF Try.prog 42 #[va, vb] w0 p q c) :
    AnsF Try.prog 31 #[str (a ++ 47 :: b)] w p q c := by
  have hla : a.length ≤ 9223372036854775806 := by rw [List.length_append, List.length_cons] at hl; omega
  have hlb : b.length ≤ 9223372036854775806 := by rw [List.length_append, List.length_cons] at hl; omega
  have hab : a.length < (a ++ 47 :: b).length := by rw [List.length_append, List.length_cons]; omega
  have HIa := Lib.hid (fun w0 => rnatural_any a w0 (by omega))
  have HIb := Lib.hid (fun w0 => rnatural_any b w0 (by omega))
  rw [ta] at HIa
  rw [tb] at HIb
  have HS1 := Lib.hid (fun k h hk => (slash_at a b).1 k h hk h47)
  have HS2 := Lib.hid ((slash_at a b).2 hab)
  have hr1 := fun W => (slash_runs a b (by omega) W).1
  have hr2 := fun W => (slash_runs a b (by omega) W).2
  have HO1 : Hid (On w (w.alloc (.cells #[.slice none 0 0, .slice none 0 0] 41))) := (On.refl w).alloc _
  have HW1 : Hid (On (w.alloc (.cells #[.slice none 0 0, .slice none 0 0] 41)) (w.alloc (.cells #[.slice none 0 0, .slice none 0 0] 41))) := On.refl _
  unfold str at *
  generalize (a ++ 47 :: b) = l at *
  have hs : (⟨l.toArray⟩ : ByteArray).size = l.length := rfl
  generalize (⟨a.toArray⟩ : ByteArray) = sa at *
  generalize (⟨b.toArray⟩ : ByteArray) = sb at *
  generalize a.length = n at *
  clear h47
  have HPa := Lib.hid hpa
  clear hpa
  have HPb := Lib.hid hpb
  clear hpb
  have HNew := Lib.hid hnew
  clear hnew
  go_enter Try.func31, Try.ntmps31
  go_wp2_with fail
  go_loop [4] (fun vi => ∃ k : Nat, vi = .int .i64 k ∧ k ≤ n) (fun vi => n - (intOf vi).toNat)
  case atStart => exact ⟨0, rfl, Nat.zero_le _⟩
  case round =>
    obtain ⟨k, rfl, hk⟩ := hrel
    by_cases hkn : k < n
    · have hlt : k < l.length := by omega
      obtain ⟨c, hc⟩ : ∃ c : Nat, (⟨l.toArray⟩ : ByteArray)[k].toNat = c := ⟨_, rfl⟩
      have hc0 : c ≠ 47 := by rw [← hc]; exact HS1.out k hlt hkn
      have hc1 : ((c : Int) == 47) = false := by simp; omega
      have HKN := Lib.hid hkn
      clear hr1 hr2 hkn hk hc0
      go_wp2_with fail
      go_round
      case rel => exact ⟨k + 1, by go_num, by have := HKN.out; omega⟩
      case measure => simp [intOf]; have := HKN.out; omega
    · obtain rfl : k = n := by omega
      have hlt : k < l.length := hab
      have hc : (⟨l.toArray⟩ : ByteArray)[k].toNat = 47 := HS2.out
      have hne : ((k : Int) == (l.length : Int)) = false := by simp; omega
      clear hkn hk
      go_wp2_with fail
      refine (HIa.out _).mono ?_
      rintro e w' ⟨rfl, rfl⟩
      go_wp2_with fail
      refine (HIb.out _).mono ?_
      rintro e w' ⟨rfl, rfl⟩
      go_wp2_with fail
      refine (HPa.out _).mono ?_
      rintro e w2 ⟨⟨va, rfl, hva⟩, hO⟩
      have HVA := Lib.hid hva; have HO2 := Lib.hid (HW1.out.trans hO)
      clear hva hO
      go_wp2_with fail
      refine (HPb.out w2).mono ?_
      rintro e w3 ⟨⟨vb, rfl, hvb⟩, hO⟩
      have HVB := Lib.hid hvb; have HVA3 := Lib.hid (HVA.out.on hO); have HO3 := Lib.hid (HO2.out.trans hO)
      clear hvb hO
      go_wp2_with fail
      refine (HNew.out va vb w3 HVA3.out HVB.out).mono ?_
      rintro e w5 ⟨⟨v, rfl, ⟨vp, vz, rfl, hp, hz⟩⟩, hOn⟩
      have HP := Lib.hid hp; have HZ := Lib.hid hz; have HO5 := Lib.hid (HO3.out.trans hOn)
      obtain ⟨op, cp, rfl, -, -, -⟩ := hp
      obtain ⟨oz, cz, rfl, -, -, -⟩ := hz
      clear hOn
      obtain ⟨k1, k2, k3, k4, k5, k6, k7⟩ := res_facts HO5.out (.slice op (nl p) cp) (.slice oz (nl q) cz)
      go_wp2
      (try simp only [Exit.inBlock, Exit.then])
      refine bodyPost_ret (by simp [results, Try.results31, go_sem, k6, k7]; try rfl) rfl ?_
      exact ⟨⟨_, rfl, (res_end HO5.out HP.out HZ.out).1⟩, (res_end HO5.out HP.out HZ.out).2⟩
set_option maxHeartbeats 1000000 in
theorem rread_no (l : List UInt8) (w : World) (h47 : (47 : UInt8) ∉ l) (hl : l.length ≤ 9223372036854775806) : AnsF Try.prog 31 #[str l] w 0 0 4 := by
  have HS1 : Hid (∀ k (h : k < l.length), l[k].toNat ≠ 47) := fun k h e => h47 (by
    have : l[k] = 47 := UInt8.toNat_inj.1 (by rw [e]; rfl)
    rw [← this]; exact List.getElem_mem h)
  have hs : (⟨l.toArray⟩ : ByteArray).size = l.length := rfl
  unfold str
  clear h47
  go_enter Try.func31, Try.ntmps31
  go_wp2_with fail
  go_loop [4] (fun vi => ∃ k : Nat, vi = .int .i64 k ∧ k ≤ l.length) (fun vi => l.length - (intOf vi).toNat)
  case atStart => exact ⟨0, rfl, Nat.zero_le _⟩
  case round =>
    obtain ⟨k, rfl, hk⟩ := hrel
    by_cases hlt : k < l.length
    · obtain ⟨c, hc⟩ : ∃ c : Nat, (⟨l.toArray⟩ : ByteArray)[k].toNat = c := ⟨_, rfl⟩
      have hc0 : c ≠ 47 := by rw [← hc]; exact HS1.out k hlt
      have hc1 : ((c : Int) == 47) = false := by simp; omega
      clear hk hc0
      go_wp2_with fail
      go_round
      case rel => exact ⟨k + 1, by go_num, by omega⟩
      case measure => simp [intOf]; omega
    · obtain rfl : k = l.length := by omega
      clear hlt hk
      go_wp2_with fail
      first | go_ret | go_returns | go_ret2
      exact ⟨⟨_, rfl, Fv.zero _⟩, (On.refl w).alloc _⟩
theorem cut_slash : ∀ l : List UInt8, (47 : UInt8) ∉ l ∨ ∃ a b, l = a ++ 47 :: b ∧ (47 : UInt8) ∉ a := by
  intro l
  induction l with
  | nil => exact .inl (by simp)
  | cons c t ih =>
    by_cases h : c = 47
    · exact .inr ⟨[], t, by rw [h]; rfl, by simp⟩
    · rcases ih with ih | ⟨a, b, rfl, ih⟩
      · exact .inl (by simp [ih]; exact fun e => h e.symm)
      · exact .inr ⟨c :: a, b, rfl, by simp [ih]; exact fun e => h e.symm⟩
/-- Read, the program's and the document's own. -/
theorem read_pair (l : List UInt8) (hl : l.length ≤ 9223372036854775806) :
    ∃ p q c, (∀ w, AnsF Try.prog 30 #[str l] w p q c) ∧ ∀ w, AnsF Try.prog 31 #[str l] w p q c := by
  rcases cut_slash l with h47 | ⟨a, b, rfl, h47⟩
  · refine ⟨0, 0, 4, fun w => ?_, fun w => rread_no l w h47 hl⟩
    cases ht : textB l
    · exact pread_nof l w h47 (by omega) ht
    · exact pread_not l w h47 (by omega) ht
  · have hla : a.length ≤ 9223372036854775806 := by rw [List.length_append, List.length_cons] at hl; omega
    have hlb : b.length ≤ 9223372036854775806 := by rw [List.length_append, List.length_cons] at hl; omega
    cases ta : textB a
    · exact ⟨0, 0, 4, fun w => pread_a a b w h47 (by omega) ta, fun w => rread_a a b w h47 hl ta⟩
    · cases tb : textB b
      · exact ⟨0, 0, 4, fun w => pread_b a b w h47 (by omega) ta tb, fun w => rread_b a b w h47 hl ta tb⟩
      · obtain ⟨A, ca, pa1, pa2, pa3⟩ := parse_pair a (by omega)
        obtain ⟨B, cb, pb1, pb2, pb3⟩ := parse_pair b (by omega)
        rcases pa3 ta with ⟨rfl, hA⟩ | rfl
        · rcases pb3 tb with ⟨rfl, hB⟩ | rfl
          · obtain ⟨p, q, c, n1, n2⟩ := new_pair A B hA hB
            exact ⟨p, q, c, fun w => pread_ok a b w h47 (by omega) A B p q c ta tb pa1 pb1 n1, fun w => rread_ok a b w h47 hl A B p q c ta tb pa2 pb2 n2⟩
          · exact ⟨0, 0, 3, fun w => pread_e2 a b w h47 (by omega) A B ta tb pa1 pb1, fun w => rread_e2 a b w h47 hl A B ta tb pa2 pb2⟩
        · exact ⟨0, 0, 3, fun w => pread_e1 a b w h47 (by omega) A ta tb pa1, fun w => rread_e1 a b w h47 hl A ta tb pa2⟩
end Go.Proofs.Ytdgmlmcllkgemaa
