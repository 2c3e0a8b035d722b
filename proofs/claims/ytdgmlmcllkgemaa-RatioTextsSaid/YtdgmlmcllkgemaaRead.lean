/- Read of package ratio. -/
import Derived.Test.YtdgmlmcllkgemaaText
namespace Go.Proofs.Ytdgmlmcllkgemaa
open Go.RowKit
set_option linter.unusedVariables false

set_option maxHeartbeats 2000000 in
theorem Read_yes (a b : List UInt8) (w : World) (h47 : (47 : UInt8) ∉ a) (hl : (a ++ 47 :: b).length ≤ 9223372036854775807) (ta : textB a = true) (tb : textB b = true) (na : nl (numOf a) ≤ 64) (nb : nl (numOf b) ≤ 64) (hb0 : 0 < numOf b) :
    Calls Try.prog 30 #[str (a ++ 47 :: b)] w fun e w' => ∃ v, e = .returned (.tuple #[v, .int .i64 0]) ∧ Fv w' v (numOf a / Nat.gcd (numOf a) (numOf b)) (numOf b / Nat.gcd (numOf a) (numOf b)) ∧ On w w' := by
  have hla : a.length ≤ 9223372036854775807 := by rw [List.length_append, List.length_cons] at hl; omega
  have hlb : b.length ≤ 9223372036854775807 := by rw [List.length_append, List.length_cons] at hl; omega
  have HCut := Lib.hid (fun w0 => lcut_yes a b w0 h47 hl)
  have HIa := Lib.hid (fun w0 => isText_any a w0 hla)
  have HIb := Lib.hid (fun w0 => isText_any b w0 hlb)
  have HPa := Lib.hid (fun w0 => Parse_yes a w0 hla ta)
  have HPb := Lib.hid (fun w0 => Parse_yes b w0 hlb tb)
  rw [ta] at HIa
  rw [tb] at HIb
  rw [show limC (numOf a) = 0 from if_pos na, show limN (numOf a) = numOf a from if_pos na] at HPa
  rw [show limC (numOf b) = 0 from if_pos nb, show limN (numOf b) = numOf b from if_pos nb] at HPb
  have HNew := Lib.hid (fun va vb w0 h1 h2 => New_yes va vb (numOf a) (numOf b) w0 h1 h2 na nb hb0)
  generalize numOf a = A at *
  generalize numOf b = B at *
  obtain ⟨P, hP⟩ : ∃ P, P = A / Nat.gcd A B := ⟨_, rfl⟩
  obtain ⟨Q, hQ⟩ : ∃ Q, Q = B / Nat.gcd A B := ⟨_, rfl⟩
  rw [← hP, ← hQ] at HNew ⊢
  clear hP hQ h47 hl ta tb hla hlb na nb hb0
  have HO1 : Hid (On w (w.alloc (.cells #[.slice none 0 0, .slice none 0 0] 41))) := (On.refl w).alloc _
  unfold str at *
  generalize (⟨(a ++ 47 :: b).toArray⟩ : ByteArray) = s at *
  generalize (⟨a.toArray⟩ : ByteArray) = sa at *
  generalize (⟨b.toArray⟩ : ByteArray) = sb at *
  go_enter Try.func30, Try.ntmps30
  go_wp2_with (first
    | (go_at_call 72; refine (HCut.out _).mono ?_; rintro e w1 ⟨rfl, n, hn⟩; have HW1 : Hid (On (w.alloc (.cells #[.slice none 0 0, .slice none 0 0] 41)) w1) := (hn ▸ (On.refl _).drewN n : On _ w1); clear hn)
    | (go_at_call 70; ((with_reducible refine (HIa.out w1).mono ?_)); rintro e w' ⟨rfl, rfl⟩)
    | (go_at_call 70; ((with_reducible refine (HIb.out w1).mono ?_)); rintro e w' ⟨rfl, rfl⟩)
    | (go_at_call 28; ((with_reducible refine (HPa.out w1).mono ?_)); rintro e w2 ⟨va, rfl, hva, hO2⟩; have HVA := Lib.hid hva; have HO2 := Lib.hid hO2; clear hva hO2)
    | (go_at_call 28; ((with_reducible refine (HPb.out w2).mono ?_)); rintro e w3 ⟨vb, rfl, hvb, hO3⟩; have HVB := Lib.hid hvb; have HO3 := Lib.hid hO3; clear hvb hO3)
    | (go_at_call 41; refine (HNew.out va vb w3 (HVA.out.on HO3.out) HVB.out).mono ?_; rintro e w5 ⟨v, rfl, ⟨vp, vz, rfl, hp, hz⟩, hOn⟩; have HP := Lib.hid hp; have HZ := Lib.hid hz; have HO5 := Lib.hid (((HW1.out.trans HO2.out).trans HO3.out).trans hOn); obtain ⟨op, cp, rfl, -, -, -⟩ := hp; obtain ⟨oz, cz, rfl, -, -, -⟩ := hz; clear hOn; obtain ⟨k1, k2, k3, k4, k5, k6, k7⟩ := res_facts HO5.out (.slice op (nl P) cp) (.slice oz (nl Q) cz)))
  (try simp only [Exit.inBlock, Exit.then])
  refine bodyPost_ret (by simp [results, Try.results30, go_sem, k6, k7]; try rfl) rfl ?_
  exact ⟨_, rfl, (res_end HO5.out HP.out HZ.out).1, (res_end HO5.out HP.out HZ.out).2⟩
end Go.Proofs.Ytdgmlmcllkgemaa
