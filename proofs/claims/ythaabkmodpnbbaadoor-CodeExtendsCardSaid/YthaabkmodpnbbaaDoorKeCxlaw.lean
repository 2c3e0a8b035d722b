/- The law CodeExtends: true for every input. -/
import Derived.Test.YthaabkmodpnbbaaDoorKeCxpair
import Derived.Test.YthaabkmodpnbbaaDoorKeCsl
import Derived.Test.YthaabkmodpnbbaaDoorKeCcols
import Derived.Test.YthaabkmodpnbbaaDoorKb18
namespace Go.Proofs.YthaabkmodpnbbaaDoor
open Go.RowKit
set_option linter.unusedVariables false

set_option maxRecDepth 100000 in
set_option maxHeartbeats 1000000 in
theorem extends_any (f b : Int) (m : Nat) (F : Nat → List Nat) (v : Value) (w : World) (hT : Tab w) (hD : TabD w) (hb : -9223372036854775808 ≤ b ∧ b ≤ 9223372036854775807) (hm : m ≤ 9223372036854775807) (hM : Mat w v m F) :
    Calls Tryd.prog 4 #[.int .i64 f, v, .int .i64 b] w fun e w' => e = .returned (.bool true) ∧ On w w' := by
  obtain ⟨hb1, hb9⟩ := hb
  have HM := Lib.hid hM
  obtain ⟨M, hMd⟩ : ∃ M, M = min m 5 := ⟨_, rfl⟩
  obtain ⟨B, hB1, hB2, hB3⟩ : ∃ B : Int, (B ≤ 2 ∨ 18 < B) ∧ (-9223372036854775808 ≤ B ∧ B ≤ 9223372036854775807) ∧ ((2 < b ∧ b ≤ 18 ∧ B = b % 3) ∨ (¬ (2 < b ∧ b ≤ 18) ∧ B = b)) := by
    by_cases h : 2 < b ∧ b ≤ 18
    · exact ⟨b % 3, by omega, by omega, .inl ⟨h.1, h.2, rfl⟩⟩
    · exact ⟨b, by omega, by omega, .inr ⟨h, rfl⟩⟩
  have HCN : Hid (∀ (v : Value) (m : Nat) (F : Nat → List Nat) (w' : World), On w w' → m ≤ 9223372036854775807 → Mat w' v m F → Calls Tryd.prog 23 #[v, .int .i64 5, .int .i64 16] w' fun e w'' => ∃ v', e = .returned v' ∧ Mat w'' v' (min m 5) (fun j => (F j).take 16) ∧ On w' w'') :=
    fun v m F w' h hm hR => columns_any m (min m 5) 5 16 F v w' h.tab rfl (by omega) (by omega) hm hR
  obtain ⟨G, hG⟩ : ∃ G : Nat → List Nat, G = fun j => (F j).take 16 := ⟨_, rfl⟩
  have hGG : (fun j => (G j).take 16) = G := by funext j; rw [hG]; simp [List.take_take]
  obtain ⟨Q, L, c, hQ, hX, hY⟩ := ext_pair f B M G (by omega) (fun j _ => by rw [hG]; simp only [List.length_take]; omega) hB2 hB1
  have HX := Lib.hid hX; have HY := Lib.hid hY
  have HSL := Lib.hid (fun n G v v' w' (h : On w w') (hn : n ≤ 1000) (h1 : Mat w' v n G) (h2 : Mat w' v' n G) => samelists_any n G v v' w' h.tab hn h1 h2)
  have HWK : Hid (∀ w', On w w' → Calls Tryd.prog 22 #[] w' fun e w'' => e = .returned (.bool true) ∧ On w' w'') := fun w' h => cworks_any w' h.tab (hD.on h)
  have HDD := Lib.hid (fun w' (h : On w w') => hD.on h)
  have H0 := Lib.hid (On.refl hT)
  clear hX hY hM hD hT
  have hmM := Lib.hid (show min m 5 = M from hMd.symm)
  have hMM := Lib.hid (show min M 5 = M by omega)
  have hM9 : M ≤ 9223372036854775807 := by omega
  have hM1k : M ≤ 1000 := by omega
  have hQ1k : Q ≤ 1000 := by omega
  have HFG := Lib.hid hG.symm
  have HGG := Lib.hid hGG
  clear hG hGG hMd
  go_enter Tryd.func4, Tryd.ntmps4
  go_wp2_with fail
  go_at_call 23
  with_reducible refine (HCN.out _ _ _ _ H0.out hm HM.out).mono ?_
  rintro e w1 ⟨v1, rfl, hM1, hO⟩
  rw [HFG.out, hmM.out] at hM1
  obtain ⟨a1, c1, rfl⟩ := hM1.shape
  have HM1 := Lib.hid hM1
  have HO1 := Lib.hid hO
  clear hM1 hO
  go_wp2_with fail
  go_at_call 23
  with_reducible refine (HCN.out _ _ _ _ HO1.out hM9 HM1.out).mono ?_
  rintro e w2 ⟨v2, rfl, hM2, hO⟩
  rw [HGG.out, hMM.out] at hM2
  obtain ⟨a2, c2, rfl⟩ := hM2.shape
  have HM2 := Lib.hid hM2
  have HN1 := Lib.hid (HM1.out.on hO)
  have HO2 := Lib.hid (HO1.out.trans hO)
  clear hM2 hO
  have hx := (HX.out a1 c1 w2 HO2.out.tab (HDD.out _ HO2.out) HN1.out)
  have HX2 := Lib.hid hx
  clear hx HX HM1
  have hB4 : (2 < b ∧ b ≤ 18 ∧ B = b % 3) ∨ (b ≤ 2 ∧ B = b) ∨ (2 < b ∧ 18 < b ∧ B = b) := by omega
  clear hB3
  rcases hB4 with ⟨hb3, hb4, rfl⟩ | ⟨hb3, rfl⟩ | ⟨hb3, hb4, rfl⟩
  all_goals
    go_wp2_with fail
    go_at_call 24
    with_reducible refine HX2.out.mono ?_
    rintro e w3 ⟨x, xn, rfl, hMx, hO⟩
    have HM3 := Lib.hid (HM2.out.on hO)
    have HN3 := Lib.hid (HN1.out.on hO)
    have HX3 := Lib.hid hMx
    have HO3 := Lib.hid (HO2.out.trans hO)
    clear hMx hO
    have hy := HY.out a2 c2 w3 HO3.out.tab HM3.out
    have HY2 := Lib.hid hy
    clear hy
    go_wp2_with fail
    go_at_call 25
    with_reducible refine HY2.out.mono ?_
    rintro e w4 ⟨y, yn, rfl, hMy, hO⟩
    have HM4 := Lib.hid (HM3.out.on hO)
    have HN4 := Lib.hid (HN3.out.on hO)
    have HX4 := Lib.hid (HX3.out.on hO)
    have HY4 := Lib.hid hMy
    have HO4 := Lib.hid (HO3.out.trans hO)
    clear hMy hO
    go_wp2_with fail
    go_at_call 26
    with_reducible refine (HSL.out _ _ _ _ _ HO4.out hQ1k HX4.out HY4.out).mono ?_
    rintro e w5 ⟨rfl, hO⟩
    have HM5 := Lib.hid (HM4.out.on hO)
    have HN5 := Lib.hid (HN4.out.on hO)
    have HO5 := Lib.hid (HO4.out.trans hO)
    clear hO
    go_wp2_with fail
    go_at_call 26
    with_reducible refine (HSL.out _ _ _ _ _ HO5.out hM1k HN5.out HM5.out).mono ?_
    rintro e w6 ⟨rfl, hO⟩
    have HO6 := Lib.hid (HO5.out.trans hO)
    clear hO
    go_wp2_with (go_at_call 22; with_reducible refine (HWK.out _ HO6.out).mono ?_; rintro e w7 ⟨rfl, hO⟩; have HO7 := Lib.hid (HO6.out.trans hO); clear hO)
    go_ret
    exact ⟨rfl, HO7.out⟩
end Go.Proofs.YthaabkmodpnbbaaDoor
