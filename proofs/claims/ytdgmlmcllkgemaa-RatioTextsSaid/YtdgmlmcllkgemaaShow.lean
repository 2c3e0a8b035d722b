/- Show of package ratio. -/
import Derived.Test.YtdgmlmcllkgemaaText
namespace Go.Proofs.Ytdgmlmcllkgemaa
open Go.RowKit
set_option linter.unusedVariables false

theorem two_on {w w' : World} {a b : Addr} {va vb : Value} (h : w.cell? a = some va ∧ w.cell? b = some vb) (k : On w w') : w'.cell? a = some va ∧ w'.cell? b = some vb :=
  ⟨(Below.cell k (cell_size h.1)).trans h.1, (Below.cell k (cell_size h.2)).trans h.2⟩
theorem cat_str (a b : List UInt8) : (⟨a.toArray⟩ : ByteArray) ++ ⟨b.toArray⟩ = ⟨(a ++ b).toArray⟩ := by
  apply ByteArray.ext
  simp
set_option maxHeartbeats 2000000 in
theorem Show_yes (vx : Value) (p q : Nat) (w : World) (hx : Fv w vx p q) (kx : okF (nl p) p (nl q) q = true) :
    Calls Try.prog 39 #[vx] w fun e w' => e = .returned (str (dec p ++ 47 :: dec q)) ∧ On w w' := by
  have HX := Lib.hid hx
  obtain ⟨vxp, vxq, rfl, hxp, hxq⟩ := hx
  obtain ⟨-, -, hp64, hq64, hq0, -⟩ := okF_true kx
  have HXP := Lib.hid hxp; have HXQ := Lib.hid hxq
  obtain ⟨o1, c1, rfl, -, -, -⟩ := hxp
  obtain ⟨o2, c2, rfl, -, -, -⟩ := hxq
  have HKX := Lib.hid kx
  have HO1 : Hid (On w (w.alloc (.cells #[.slice o1 (nl p) c1, .slice o2 (nl q) c2] 41))) := (On.refl w).alloc _
  have HF : Hid ((w.alloc (.cells #[.slice o1 (nl p) c1, .slice o2 (nl q) c2] 41)).cell? ⟨w.heap.size, 0, none⟩ = some (.slice o1 (nl p) c1) ∧ (w.alloc (.cells #[.slice o1 (nl p) c1, .slice o2 (nl q) c2] 41)).cell? ⟨w.heap.size, 1, none⟩ = some (.slice o2 (nl q) c2)) :=
    ⟨by rw [World.cell?_alloc_new]; rfl, by rw [World.cell?_alloc_new]; rfl⟩
  have hcat : (⟨(dec p).toArray⟩ : ByteArray) ++ ⟨#[47]⟩ ++ ⟨(dec q).toArray⟩ = ⟨(dec p ++ 47 :: dec q).toArray⟩ := by
    rw [show (⟨#[47]⟩ : ByteArray) = ⟨[47].toArray⟩ from rfl, cat_str, cat_str, List.append_assoc]; rfl
  have HCAT := Lib.hid hcat; clear hcat
  have HTP := Lib.hid (fun w0 h => Text_yes (.slice o1 (nl p) c1) p w0 h hp64)
  have HTQ := Lib.hid (fun w0 h => Text_yes (.slice o2 (nl q) c2) q w0 h hq64)
  unfold str at *
  obtain ⟨sp, hsp⟩ : ∃ sp : ByteArray, sp = ⟨(dec p).toArray⟩ := ⟨_, rfl⟩
  obtain ⟨sq, hsq⟩ : ∃ sq : ByteArray, sq = ⟨(dec q).toArray⟩ := ⟨_, rfl⟩
  rw [← hsp] at HTP HCAT
  rw [← hsq] at HTQ HCAT
  rw [← HCAT.out]
  have z1 : sp.size ≤ 700 := by rw [hsp]; exact (dec_len p hp64).1
  have z2 : sq.size ≤ 700 := by rw [hsq]; exact (dec_len q hq64).1
  have g1 : sp.size + 1 ≤ 9223372036854775807 := by omega
  have g2 : sp.size + 1 + sq.size ≤ 9223372036854775807 := by omega
  clear hsp hsq
  go_enter Try.func39, Try.ntmps39
  go_hidden (go_wp2_with (go_at_call 35; ((with_reducible refine (valid_any (.agg #[.slice o1 (nl p) c1, .slice o2 (nl q) c2]) (nl p) p (nl q) q _ (HX.out.gv.on HO1.out) (lt_nl p) (lt_nl q)).mono ?_)); rw [HKX.out]; rintro e w2 ⟨rfl, hO⟩; have HO2 := Lib.hid hO; clear hO))
  obtain ⟨hS1, hS2⟩ := two_on HF.out HO2.out
  have HP2 := Lib.hid (HXP.out.on (HO1.out.trans HO2.out))
  have HQ2 := Lib.hid (HXQ.out.on (HO1.out.trans HO2.out))
  have HU2 := Lib.hid (HO1.out.trans HO2.out)
  go_region_with (first
    | (go_at_call 14; ((with_reducible refine (HTP.out w2 HP2.out).mono ?_)); rintro e wa ⟨rfl, hOa⟩; have HOa := Lib.hid hOa; obtain ⟨hA1, hA2⟩ := two_on ⟨hS1, hS2⟩ hOa; clear hOa)
    | (go_at_call 14; ((with_reducible refine (HTP.out w2.drew (HP2.out.on (On.refl w2).drew)).mono ?_)); rintro e wa ⟨rfl, hOa⟩; have HOa := Lib.hid ((On.refl w2).drew.trans hOa); obtain ⟨hA1, hA2⟩ := two_on ⟨hS1, hS2⟩ HOa.out; clear hOa)
    | (go_at_call 14; ((with_reducible refine (HTQ.out wa (HQ2.out.on HOa.out)).mono ?_)); rintro e wb ⟨rfl, hOb⟩; have HFIN := Lib.hid (HU2.out.trans (HOa.out.trans hOb)); clear hOb)
    | (go_at_call 14; ((with_reducible refine (HTQ.out wa.drew (HQ2.out.on HOa.out.drew)).mono ?_)); rintro e wb ⟨rfl, hOb⟩; have HFIN := Lib.hid (HU2.out.trans (HOa.out.drew.trans hOb)); clear hOb))
  all_goals
    go_wp2
    go_ret
    first | exact ⟨rfl, HFIN.out⟩ | exact ⟨rfl, HFIN.out.drew⟩
end Go.Proofs.Ytdgmlmcllkgemaa
