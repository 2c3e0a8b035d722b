/- The walk of PolyOps. -/
import Derived.Test.YtdhacfagmfecgaaDoorPopsA
namespace Go.Proofs.YtdhacfagmfecgaaDoor
open Go.RowKit
set_option linter.unusedVariables false

theorem Reads.drew {w : World} {v : Value} {l : List Nat} (h : Reads w v l) : Reads w.drew v l := h
theorem own_lst (l : List Nat) (v : Value) (w : World) (hT : Tab w) (hR : Reads w v l) (hS : Shape v l) : Lst Tryd.prog 5 #[v, .int .i64 60] w (l.take 60) :=
  (own_any l 60 v w hT hR hS (by omega)).mono fun e w' ⟨⟨u, he, hu⟩, hO⟩ => by
    obtain ⟨a, c, rfl⟩ := hu.shape
    exact ⟨⟨_, _, _, he, hu⟩, hO⟩
theorem args_at (w : World) (v0 v1 v2 v3 v4 : Value) : let w0 := w.alloc (.cells #[v0, v1, v2, v3, v4] 25)
    w0.cell? ⟨w.heap.size, 0, none⟩ = some v0 ∧ w0.cell? ⟨w.heap.size, 1, none⟩ = some v1 ∧ w0.cell? ⟨w.heap.size, 2, none⟩ = some v2 ∧ w0.cell? ⟨w.heap.size, 3, none⟩ = some v3 ∧ w0.cell? ⟨w.heap.size, 4, none⟩ = some v4 :=
  ⟨by rw [World.cell?_alloc_new]; rfl, by rw [World.cell?_alloc_new]; rfl, by rw [World.cell?_alloc_new]; rfl, by rw [World.cell?_alloc_new]; rfl, by rw [World.cell?_alloc_new]; rfl⟩
set_option maxHeartbeats 4000000 in
set_option maxRecDepth 100000 in
theorem ops_any (f : Int) (s x : Nat) (la lb : List Nat) (va vb : Value) (w : World) (hT : Tab w) (hs : s ≤ 18446744073709551615) (hx : x ≤ 18446744073709551615) (hRa : Reads w va la) (hSa : Shape va la) (hRb : Reads w vb lb) (hSb : Shape vb lb) :
    Calls Tryd.prog 3 #[.agg #[.int .i64 f, va, vb, .int .u64 (s : Int), .int .u64 (x : Int)]] w fun e w' => e = .returned (.bool true) ∧ On w w' := by
  have HSA := Lib.hid hSa; have HSB0 := Lib.hid hSb
  obtain ⟨aa, ca, rfl, -, -, -⟩ := hSa
  obtain ⟨ab, cb, rfl, -, -, -⟩ := hSb
  have HLA : Hid ((la.take 60).length ≤ 100) := by unfold Hid; rw [List.length_take]; omega
  have HLB : Hid ((lb.take 60).length ≤ 100) := by unfold Hid; rw [List.length_take]; omega
  have HXB := Lib.hid hx; have HSB := Lib.hid hs
  clear hx hs
  obtain ⟨na, hna⟩ : ∃ na, na = la.length := ⟨_, rfl⟩
  obtain ⟨nb, hnb⟩ : ∃ nb, nb = lb.length := ⟨_, rfl⟩
  rw [← hna] at HSA hRa ⊢
  rw [← hnb] at HSB0 hRb ⊢
  clear hna hnb
  obtain ⟨w0, hw0⟩ : ∃ w0, w0 = w.alloc (.cells #[.int .i64 f, .slice aa na ca, .slice ab nb cb, .int .u64 (s : Int), .int .u64 (x : Int)] 25) := ⟨_, rfl⟩
  have HO0 : Hid (On w w0) := by unfold Hid; rw [hw0]; exact (On.refl hT).alloc _
  have RA0 := Lib.hid (hRa.on HO0.out); have RB0 := Lib.hid (hRb.on HO0.out)
  have HX := Lib.hid (On.refl HO0.out.tab)
  have hat := args_at w (.int .i64 f) (.slice aa na ca) (.slice ab nb cb) (.int .u64 (s : Int)) (.int .u64 (x : Int))
  dsimp only at hat
  rw [← hw0] at hat
  have hbs : w.heap.size < w0.heap.size := by rw [hw0]; simp
  obtain ⟨Bx, hBx⟩ : ∃ Bx, Bx = w.heap.size := ⟨_, rfl⟩
  rw [← hBx] at hat hbs
  have HBX : Hid (∀ W, On w0 W → W.cell? ⟨Bx, 0, none⟩ = some (.int .i64 f) ∧ W.cell? ⟨Bx, 1, none⟩ = some (.slice aa na ca) ∧ W.cell? ⟨Bx, 2, none⟩ = some (.slice ab nb cb) ∧ W.cell? ⟨Bx, 3, none⟩ = some (.int .u64 (s : Int)) ∧ W.cell? ⟨Bx, 4, none⟩ = some (.int .u64 (x : Int))) := fun W hW =>
    ⟨by rw [hW.cell (p := ⟨Bx, 0, none⟩) hbs]; exact hat.1, by rw [hW.cell (p := ⟨Bx, 1, none⟩) hbs]; exact hat.2.1, by rw [hW.cell (p := ⟨Bx, 2, none⟩) hbs]; exact hat.2.2.1, by rw [hW.cell (p := ⟨Bx, 3, none⟩) hbs]; exact hat.2.2.2.1, by rw [hW.cell (p := ⟨Bx, 4, none⟩) hbs]; exact hat.2.2.2.2⟩
  have HW0 := Lib.hid hw0; have HBE := Lib.hid hBx
  clear hRa hRb hT hat hbs hw0 hBx
  go_enter Tryd.func3, Tryd.ntmps3
  go_wp2_with fail
  rw [← HW0.out, ← HBE.out]
  clear HW0 HBE
  go_wp2_with fail
  go_region_held3 (fun w' => w'.cell? ⟨Bx, 0, none⟩ = some (.int .i64 f) ∧ w'.cell? ⟨Bx, 1, none⟩ = some (.slice aa na ca) ∧ w'.cell? ⟨Bx, 2, none⟩ = some (.slice ab nb cb) ∧ w'.cell? ⟨Bx, 3, none⟩ = some (.int .u64 (s : Int)) ∧ w'.cell? ⟨Bx, 4, none⟩ = some (.int .u64 (x : Int))) (first | assumption | exact HBX.out _ HX.out.drew) (first
    | (go_at_call 5; with_reducible refine (show Calls Tryd.prog 5 _ _ _ from own_lst _ _ _ HX.out.drew.tab RA0.out.drew HSA.out).mono ?_; rintro e w1 ⟨⟨a1, n1, c1, rfl, hr⟩, hO1⟩; have hO := ((On.refl HX.out.tab).drew.trans hO1); replace RA0 := Lib.hid (RA0.out.on hO); replace RB0 := Lib.hid (RB0.out.on hO); have RA := Lib.hid hr; clear hr; replace HX := Lib.hid (HX.out.trans hO); have hS := HBX.out _ HX.out; clear hO hO1)
    | (go_at_call 5; with_reducible refine (show Calls Tryd.prog 5 _ _ _ from own_lst _ _ _ HX.out.tab RB0.out HSB0.out).mono ?_; rintro e w2 ⟨⟨a2, n2, c2, rfl, hr⟩, hO1⟩; have hO := hO1; replace RA0 := Lib.hid (RA0.out.on hO); replace RB0 := Lib.hid (RB0.out.on hO); replace RA := Lib.hid (RA.out.on hO); have RB := Lib.hid hr; clear hr; replace HX := Lib.hid (HX.out.trans hO); have hS := HBX.out _ HX.out; clear hO hO1))
  go_wp2_with fail
  go_region_held3 (fun w' => w'.cell? ⟨Bx, 0, none⟩ = some (.int .i64 f) ∧ w'.cell? ⟨Bx, 1, none⟩ = some (.slice aa na ca) ∧ w'.cell? ⟨Bx, 2, none⟩ = some (.slice ab nb cb) ∧ w'.cell? ⟨Bx, 3, none⟩ = some (.int .u64 (s : Int)) ∧ w'.cell? ⟨Bx, 4, none⟩ = some (.int .u64 (x : Int))) (first | assumption | exact HBX.out _ HX.out.drew) (first
    | (go_at_call 5; with_reducible refine (show Calls Tryd.prog 5 _ _ _ from own_lst _ _ _ HX.out.drew.tab RA0.out.drew HSA.out).mono ?_; rintro e w3 ⟨⟨a3, n3, c3, rfl, hr⟩, hO1⟩; have hO := ((On.refl HX.out.tab).drew.trans hO1); replace RA0 := Lib.hid (RA0.out.on hO); replace RB0 := Lib.hid (RB0.out.on hO); replace RA := Lib.hid (RA.out.on hO); replace RB := Lib.hid (RB.out.on hO); have RC := Lib.hid hr; clear hr; replace HX := Lib.hid (HX.out.trans hO); have hS := HBX.out _ HX.out; clear hO hO1)
    | (go_at_call 5; with_reducible refine (show Calls Tryd.prog 5 _ _ _ from own_lst _ _ _ HX.out.tab RB0.out HSB0.out).mono ?_; rintro e w4 ⟨⟨a4, n4, c4, rfl, hr⟩, hO1⟩; have hO := hO1; replace RA0 := Lib.hid (RA0.out.on hO); replace RB0 := Lib.hid (RB0.out.on hO); replace RA := Lib.hid (RA.out.on hO); replace RB := Lib.hid (RB.out.on hO); replace RC := Lib.hid (RC.out.on hO); have RD := Lib.hid hr; clear hr; replace HX := Lib.hid (HX.out.trans hO); have hS := HBX.out _ HX.out; clear hO hO1))
  generalize la.take 60 = a at *
  generalize lb.take 60 = b at *
  clear RA0 RB0
  clear HSA HSB0
  obtain ⟨D, hD⟩ : ∃ D : Int, D = ((normF f a).length : Int) - 1 := ⟨_, rfl⟩
  have HD := Lib.hid hD; clear hD
  obtain ⟨y, hy⟩ : ∃ y : Nat, y = evF f a x := ⟨_, rfl⟩
  have hyb : y ≤ 998244353 := by rw [hy]; exact evF_le _ _ _
  have HY := Lib.hid hy; clear hy
  go_wp2_with fail
  go_region_held3 (fun w' => w'.cell? ⟨Bx, 0, none⟩ = some (.int .i64 f) ∧ w'.cell? ⟨Bx, 1, none⟩ = some (.slice aa na ca) ∧ w'.cell? ⟨Bx, 2, none⟩ = some (.slice ab nb cb) ∧ w'.cell? ⟨Bx, 3, none⟩ = some (.int .u64 (s : Int)) ∧ w'.cell? ⟨Bx, 4, none⟩ = some (.int .u64 (x : Int))) (first | assumption | exact HBX.out _ HX.out.drew) (first
    | (go_at_call 7; with_reducible refine (show Calls Tryd.prog 7 _ _ _ from p_norm f a _ _ HX.out.drew.tab RA.out.drew HLA.out).mono ?_; rintro e w5 ⟨⟨a5, n5, c5, rfl, hr⟩, hO1⟩; have hO := ((On.refl HX.out.tab).drew.trans hO1); replace RA := Lib.hid (RA.out.on hO); replace RB := Lib.hid (RB.out.on hO); replace RC := Lib.hid (RC.out.on hO); replace RD := Lib.hid (RD.out.on hO); have RP := Lib.hid hr; clear hr; replace HX := Lib.hid (HX.out.trans hO); have hS := HBX.out _ HX.out; clear hO hO1)
    | (go_at_call 8; with_reducible refine (show Calls Tryd.prog 8 _ _ _ from r_norm f a _ _ HX.out.tab RC.out HLA.out).mono ?_; rintro e w6 ⟨⟨a6, n6, c6, rfl, hr⟩, hO1⟩; have hO := hO1; replace RA := Lib.hid (RA.out.on hO); replace RB := Lib.hid (RB.out.on hO); replace RC := Lib.hid (RC.out.on hO); replace RD := Lib.hid (RD.out.on hO); replace RP := Lib.hid (RP.out.on hO); have RQ := Lib.hid hr; clear hr; replace HX := Lib.hid (HX.out.trans hO); have hS := HBX.out _ HX.out; clear hO hO1)
    | (go_at_call 6; with_reducible refine (show Calls Tryd.prog 6 _ _ _ from same_true (normF f a) _ _ _ HX.out.tab RP.out RQ.out).mono ?_; rintro e w7 ⟨rfl, hO1⟩; have hO := hO1; replace RA := Lib.hid (RA.out.on hO); replace RB := Lib.hid (RB.out.on hO); replace RC := Lib.hid (RC.out.on hO); replace RD := Lib.hid (RD.out.on hO); replace RP := Lib.hid (RP.out.on hO); replace RQ := Lib.hid (RQ.out.on hO); replace HX := Lib.hid (HX.out.trans hO); have hS := HBX.out _ HX.out; clear hO hO1)
    | (go_at_call 9; with_reducible refine (show Calls Tryd.prog 9 _ _ _ from p_deg f a _ _ HX.out.tab RA.out D HD.out).mono ?_; rintro e w8 ⟨rfl, hO1⟩; have hO := hO1; replace RA := Lib.hid (RA.out.on hO); replace RB := Lib.hid (RB.out.on hO); replace RC := Lib.hid (RC.out.on hO); replace RD := Lib.hid (RD.out.on hO); replace RP := Lib.hid (RP.out.on hO); replace RQ := Lib.hid (RQ.out.on hO); replace HX := Lib.hid (HX.out.trans hO); have hS := HBX.out _ HX.out; clear hO hO1)
    | (go_at_call 10; with_reducible refine (show Calls Tryd.prog 10 _ _ _ from r_deg f a _ _ HX.out.tab RC.out HLA.out D HD.out).mono ?_; rintro e w9 ⟨rfl, hO1⟩; have hO := hO1; replace RA := Lib.hid (RA.out.on hO); replace RB := Lib.hid (RB.out.on hO); replace RC := Lib.hid (RC.out.on hO); replace RD := Lib.hid (RD.out.on hO); replace RP := Lib.hid (RP.out.on hO); replace RQ := Lib.hid (RQ.out.on hO); replace HX := Lib.hid (HX.out.trans hO); have hS := HBX.out _ HX.out; clear hO hO1)
    | (go_at_call 11; with_reducible refine (show Calls Tryd.prog 11 _ _ _ from p_add f a b _ _ _ HX.out.tab RA.out RB.out HLA.out HLB.out).mono ?_; rintro e w10 ⟨⟨a10, n10, c10, rfl, hr⟩, hO1⟩; have hO := hO1; replace RA := Lib.hid (RA.out.on hO); replace RB := Lib.hid (RB.out.on hO); replace RC := Lib.hid (RC.out.on hO); replace RD := Lib.hid (RD.out.on hO); replace RP := Lib.hid (RP.out.on hO); replace RQ := Lib.hid (RQ.out.on hO); have RP2 := Lib.hid hr; clear hr; replace HX := Lib.hid (HX.out.trans hO); have hS := HBX.out _ HX.out; clear hO hO1)
    | (go_at_call 12; with_reducible refine (show Calls Tryd.prog 12 _ _ _ from r_add f a b _ _ _ HX.out.tab RC.out RD.out HLA.out HLB.out).mono ?_; rintro e w11 ⟨⟨a11, n11, c11, rfl, hr⟩, hO1⟩; have hO := hO1; replace RA := Lib.hid (RA.out.on hO); replace RB := Lib.hid (RB.out.on hO); replace RC := Lib.hid (RC.out.on hO); replace RD := Lib.hid (RD.out.on hO); replace RP := Lib.hid (RP.out.on hO); replace RQ := Lib.hid (RQ.out.on hO); replace RP2 := Lib.hid (RP2.out.on hO); have RQ2 := Lib.hid hr; clear hr; replace HX := Lib.hid (HX.out.trans hO); have hS := HBX.out _ HX.out; clear hO hO1)
    | (go_at_call 6; with_reducible refine (show Calls Tryd.prog 6 _ _ _ from same_true (addL f a b) _ _ _ HX.out.tab RP2.out RQ2.out).mono ?_; rintro e w12 ⟨rfl, hO1⟩; have hO := hO1; replace RA := Lib.hid (RA.out.on hO); replace RB := Lib.hid (RB.out.on hO); replace RC := Lib.hid (RC.out.on hO); replace RD := Lib.hid (RD.out.on hO); replace RP := Lib.hid (RP.out.on hO); replace RQ := Lib.hid (RQ.out.on hO); replace RP2 := Lib.hid (RP2.out.on hO); replace RQ2 := Lib.hid (RQ2.out.on hO); replace HX := Lib.hid (HX.out.trans hO); have hS := HBX.out _ HX.out; clear hO hO1)
    | (go_at_call 13; with_reducible refine (show Calls Tryd.prog 13 _ _ _ from p_sub f a b _ _ _ HX.out.tab RA.out RB.out HLA.out HLB.out).mono ?_; rintro e w13 ⟨⟨a13, n13, c13, rfl, hr⟩, hO1⟩; have hO := hO1; replace RA := Lib.hid (RA.out.on hO); replace RB := Lib.hid (RB.out.on hO); replace RC := Lib.hid (RC.out.on hO); replace RD := Lib.hid (RD.out.on hO); replace RP := Lib.hid (RP.out.on hO); replace RQ := Lib.hid (RQ.out.on hO); replace RP2 := Lib.hid (RP2.out.on hO); replace RQ2 := Lib.hid (RQ2.out.on hO); have RP3 := Lib.hid hr; clear hr; replace HX := Lib.hid (HX.out.trans hO); have hS := HBX.out _ HX.out; clear hO hO1)
    | (go_at_call 14; with_reducible refine (show Calls Tryd.prog 14 _ _ _ from r_sub f a b _ _ _ HX.out.tab RC.out RD.out HLA.out HLB.out).mono ?_; rintro e w14 ⟨⟨a14, n14, c14, rfl, hr⟩, hO1⟩; have hO := hO1; replace RA := Lib.hid (RA.out.on hO); replace RB := Lib.hid (RB.out.on hO); replace RC := Lib.hid (RC.out.on hO); replace RD := Lib.hid (RD.out.on hO); replace RP := Lib.hid (RP.out.on hO); replace RQ := Lib.hid (RQ.out.on hO); replace RP2 := Lib.hid (RP2.out.on hO); replace RQ2 := Lib.hid (RQ2.out.on hO); replace RP3 := Lib.hid (RP3.out.on hO); have RQ3 := Lib.hid hr; clear hr; replace HX := Lib.hid (HX.out.trans hO); have hS := HBX.out _ HX.out; clear hO hO1)
    | (go_at_call 6; with_reducible refine (show Calls Tryd.prog 6 _ _ _ from same_true (subL f a b) _ _ _ HX.out.tab RP3.out RQ3.out).mono ?_; rintro e w15 ⟨rfl, hO1⟩; have hO := hO1; replace RA := Lib.hid (RA.out.on hO); replace RB := Lib.hid (RB.out.on hO); replace RC := Lib.hid (RC.out.on hO); replace RD := Lib.hid (RD.out.on hO); replace RP := Lib.hid (RP.out.on hO); replace RQ := Lib.hid (RQ.out.on hO); replace RP2 := Lib.hid (RP2.out.on hO); replace RQ2 := Lib.hid (RQ2.out.on hO); replace RP3 := Lib.hid (RP3.out.on hO); replace RQ3 := Lib.hid (RQ3.out.on hO); replace HX := Lib.hid (HX.out.trans hO); have hS := HBX.out _ HX.out; clear hO hO1))
  clear RP RQ RP2 RQ2 RP3 RQ3
  go_wp2_with fail
  go_region_held3 (fun w' => w'.cell? ⟨Bx, 0, none⟩ = some (.int .i64 f) ∧ w'.cell? ⟨Bx, 1, none⟩ = some (.slice aa na ca) ∧ w'.cell? ⟨Bx, 2, none⟩ = some (.slice ab nb cb) ∧ w'.cell? ⟨Bx, 3, none⟩ = some (.int .u64 (s : Int)) ∧ w'.cell? ⟨Bx, 4, none⟩ = some (.int .u64 (x : Int))) (first | assumption | exact HBX.out _ HX.out.drew) (first
    | (go_at_call 15; with_reducible refine (show Calls Tryd.prog 15 _ _ _ from p_scale f a s _ _ HX.out.drew.tab RA.out.drew HLA.out HSB.out).mono ?_; rintro e w16 ⟨⟨a16, n16, c16, rfl, hr⟩, hO1⟩; have hO := ((On.refl HX.out.tab).drew.trans hO1); replace RA := Lib.hid (RA.out.on hO); replace RB := Lib.hid (RB.out.on hO); replace RC := Lib.hid (RC.out.on hO); replace RD := Lib.hid (RD.out.on hO); have RP := Lib.hid hr; clear hr; replace HX := Lib.hid (HX.out.trans hO); have hS := HBX.out _ HX.out; clear hO hO1)
    | (go_at_call 16; with_reducible refine (show Calls Tryd.prog 16 _ _ _ from r_scale f a s _ _ HX.out.tab RC.out HLA.out HSB.out).mono ?_; rintro e w17 ⟨⟨a17, n17, c17, rfl, hr⟩, hO1⟩; have hO := hO1; replace RA := Lib.hid (RA.out.on hO); replace RB := Lib.hid (RB.out.on hO); replace RC := Lib.hid (RC.out.on hO); replace RD := Lib.hid (RD.out.on hO); replace RP := Lib.hid (RP.out.on hO); have RQ := Lib.hid hr; clear hr; replace HX := Lib.hid (HX.out.trans hO); have hS := HBX.out _ HX.out; clear hO hO1)
    | (go_at_call 6; with_reducible refine (show Calls Tryd.prog 6 _ _ _ from same_true (scaleF f a s) _ _ _ HX.out.tab RP.out RQ.out).mono ?_; rintro e w18 ⟨rfl, hO1⟩; have hO := hO1; replace RA := Lib.hid (RA.out.on hO); replace RB := Lib.hid (RB.out.on hO); replace RC := Lib.hid (RC.out.on hO); replace RD := Lib.hid (RD.out.on hO); replace RP := Lib.hid (RP.out.on hO); replace RQ := Lib.hid (RQ.out.on hO); replace HX := Lib.hid (HX.out.trans hO); have hS := HBX.out _ HX.out; clear hO hO1)
    | (go_at_call 17; with_reducible refine (show Calls Tryd.prog 17 _ _ _ from p_eval f a x _ _ HX.out.tab RA.out HXB.out y HY.out).mono ?_; rintro e w19 ⟨rfl, hO1⟩; have hO := hO1; replace RA := Lib.hid (RA.out.on hO); replace RB := Lib.hid (RB.out.on hO); replace RC := Lib.hid (RC.out.on hO); replace RD := Lib.hid (RD.out.on hO); replace RP := Lib.hid (RP.out.on hO); replace RQ := Lib.hid (RQ.out.on hO); replace HX := Lib.hid (HX.out.trans hO); have hS := HBX.out _ HX.out; clear hO hO1)
    | (go_at_call 18; with_reducible refine (show Calls Tryd.prog 18 _ _ _ from r_eval f a x _ _ HX.out.tab RC.out HXB.out y HY.out).mono ?_; rintro e w20 ⟨rfl, hO1⟩; have hO := hO1; replace RA := Lib.hid (RA.out.on hO); replace RB := Lib.hid (RB.out.on hO); replace RC := Lib.hid (RC.out.on hO); replace RD := Lib.hid (RD.out.on hO); replace RP := Lib.hid (RP.out.on hO); replace RQ := Lib.hid (RQ.out.on hO); replace HX := Lib.hid (HX.out.trans hO); have hS := HBX.out _ HX.out; clear hO hO1)
    | (go_at_call 19; with_reducible refine (show Calls Tryd.prog 19 _ _ _ from p_shift f a s _ _ HX.out.tab RA.out HLA.out HSB.out).mono ?_; rintro e w21 ⟨⟨a21, n21, c21, rfl, hr⟩, hO1⟩; have hO := hO1; replace RA := Lib.hid (RA.out.on hO); replace RB := Lib.hid (RB.out.on hO); replace RC := Lib.hid (RC.out.on hO); replace RD := Lib.hid (RD.out.on hO); replace RP := Lib.hid (RP.out.on hO); replace RQ := Lib.hid (RQ.out.on hO); have RP2 := Lib.hid hr; clear hr; replace HX := Lib.hid (HX.out.trans hO); have hS := HBX.out _ HX.out; clear hO hO1)
    | (go_at_call 20; with_reducible refine (show Calls Tryd.prog 20 _ _ _ from r_shift f a s _ _ HX.out.tab RC.out HLA.out HSB.out).mono ?_; rintro e w22 ⟨⟨a22, n22, c22, rfl, hr⟩, hO1⟩; have hO := hO1; replace RA := Lib.hid (RA.out.on hO); replace RB := Lib.hid (RB.out.on hO); replace RC := Lib.hid (RC.out.on hO); replace RD := Lib.hid (RD.out.on hO); replace RP := Lib.hid (RP.out.on hO); replace RQ := Lib.hid (RQ.out.on hO); replace RP2 := Lib.hid (RP2.out.on hO); have RQ2 := Lib.hid hr; clear hr; replace HX := Lib.hid (HX.out.trans hO); have hS := HBX.out _ HX.out; clear hO hO1)
    | (go_at_call 6; with_reducible refine (show Calls Tryd.prog 6 _ _ _ from same_true (shiftF f a s) _ _ _ HX.out.tab RP2.out RQ2.out).mono ?_; rintro e w23 ⟨rfl, hO1⟩; have hO := hO1; replace RA := Lib.hid (RA.out.on hO); replace RB := Lib.hid (RB.out.on hO); replace RC := Lib.hid (RC.out.on hO); replace RD := Lib.hid (RD.out.on hO); replace RP := Lib.hid (RP.out.on hO); replace RQ := Lib.hid (RQ.out.on hO); replace RP2 := Lib.hid (RP2.out.on hO); replace RQ2 := Lib.hid (RQ2.out.on hO); replace HX := Lib.hid (HX.out.trans hO); have hS := HBX.out _ HX.out; clear hO hO1))
  clear RP RQ RP2 RQ2
  have hS1 := HBX.out _ HX.out
  obtain ⟨hS1, hS2, hS3, hS4, hS5⟩ := hS1
  obtain ⟨M1, d1, hm1, hm2⟩ := mul_pair f a b HLA.out HLB.out
  obtain ⟨M2, M3, d2, hv1, hv2⟩ := divide_pair f a b HLA.out HLB.out
  have HM1 := Lib.hid hm1; have HM2 := Lib.hid hm2; have HV1 := Lib.hid hv1; have HV2 := Lib.hid hv2
  clear hm1 hm2 hv1 hv2
  go_wp2_with fail
  refine (show Calls Tryd.prog 21 _ _ _ from HM1.out _ _ _ HX.out.tab RA.out RB.out).mono ?_
  rintro e w24 ⟨⟨a24, n24, c24, rfl, hr⟩, hO1⟩
  have hO := hO1
  replace RA := Lib.hid (RA.out.on hO)
  replace RB := Lib.hid (RB.out.on hO)
  replace RC := Lib.hid (RC.out.on hO)
  replace RD := Lib.hid (RD.out.on hO)
  have RP := Lib.hid hr
  clear hr
  replace HX := Lib.hid (HX.out.trans hO)
  clear hO hO1
  obtain ⟨hS1, hS2, hS3, hS4, hS5⟩ := HBX.out _ HX.out
  go_wp2_with fail
  refine (show Calls Tryd.prog 22 _ _ _ from HM2.out _ _ _ HX.out.tab RC.out RD.out).mono ?_
  rintro e w25 ⟨⟨a25, n25, c25, rfl, hr⟩, hO1⟩
  have hO := hO1
  replace RA := Lib.hid (RA.out.on hO)
  replace RB := Lib.hid (RB.out.on hO)
  replace RC := Lib.hid (RC.out.on hO)
  replace RD := Lib.hid (RD.out.on hO)
  replace RP := Lib.hid (RP.out.on hO)
  have RQ := Lib.hid hr
  clear hr
  replace HX := Lib.hid (HX.out.trans hO)
  clear hO hO1
  obtain ⟨hS1, hS2, hS3, hS4, hS5⟩ := HBX.out _ HX.out
  go_wp2_with fail
  refine (show Calls Tryd.prog 6 _ _ _ from same_true M1 _ _ _ HX.out.tab RP.out RQ.out).mono ?_
  rintro e w26 ⟨rfl, hO1⟩
  have hO := hO1
  replace RA := Lib.hid (RA.out.on hO)
  replace RB := Lib.hid (RB.out.on hO)
  replace RC := Lib.hid (RC.out.on hO)
  replace RD := Lib.hid (RD.out.on hO)
  replace RP := Lib.hid (RP.out.on hO)
  replace RQ := Lib.hid (RQ.out.on hO)
  replace HX := Lib.hid (HX.out.trans hO)
  clear hO hO1
  obtain ⟨hS1, hS2, hS3, hS4, hS5⟩ := HBX.out _ HX.out
  clear RP RQ
  go_wp2_with fail
  refine (show Calls Tryd.prog 23 _ _ _ from HV1.out _ _ _ HX.out.tab RA.out RB.out).mono ?_
  rintro e w27 ⟨⟨a27, n27, c27, a27', n27', c27', rfl, hr, hr2⟩, hO1⟩
  have hO := hO1
  replace RA := Lib.hid (RA.out.on hO)
  replace RB := Lib.hid (RB.out.on hO)
  replace RC := Lib.hid (RC.out.on hO)
  replace RD := Lib.hid (RD.out.on hO)
  have RP := Lib.hid hr
  clear hr
  replace HX := Lib.hid (HX.out.trans hO)
  have RP2 := Lib.hid hr2
  clear hO hO1
  clear hr2
  obtain ⟨hS1, hS2, hS3, hS4, hS5⟩ := HBX.out _ HX.out
  go_wp2_with fail
  refine (show Calls Tryd.prog 24 _ _ _ from HV2.out _ _ _ HX.out.tab RC.out RD.out).mono ?_
  rintro e w28 ⟨⟨a28, n28, c28, a28', n28', c28', rfl, hr, hr2⟩, hO1⟩
  have hO := hO1
  replace RA := Lib.hid (RA.out.on hO)
  replace RB := Lib.hid (RB.out.on hO)
  replace RC := Lib.hid (RC.out.on hO)
  replace RD := Lib.hid (RD.out.on hO)
  replace RP := Lib.hid (RP.out.on hO)
  replace RP2 := Lib.hid (RP2.out.on hO)
  have RQ := Lib.hid hr
  clear hr
  replace HX := Lib.hid (HX.out.trans hO)
  have RQ2 := Lib.hid hr2
  clear hO hO1
  clear hr2
  obtain ⟨hS1, hS2, hS3, hS4, hS5⟩ := HBX.out _ HX.out
  go_wp2_with fail
  refine (show Calls Tryd.prog 6 _ _ _ from same_true M2 _ _ _ HX.out.tab RP.out RQ.out).mono ?_
  rintro e w29 ⟨rfl, hO1⟩
  have hO := hO1
  replace RA := Lib.hid (RA.out.on hO)
  replace RB := Lib.hid (RB.out.on hO)
  replace RC := Lib.hid (RC.out.on hO)
  replace RD := Lib.hid (RD.out.on hO)
  replace RP := Lib.hid (RP.out.on hO)
  replace RP2 := Lib.hid (RP2.out.on hO)
  replace RQ := Lib.hid (RQ.out.on hO)
  replace RQ2 := Lib.hid (RQ2.out.on hO)
  replace HX := Lib.hid (HX.out.trans hO)
  clear hO hO1
  go_wp2_with fail
  refine (show Calls Tryd.prog 6 _ _ _ from same_true M3 _ _ _ HX.out.tab RP2.out RQ2.out).mono ?_
  rintro e w30 ⟨rfl, hO1⟩
  have hO := hO1
  replace RA := Lib.hid (RA.out.on hO)
  replace RB := Lib.hid (RB.out.on hO)
  replace RC := Lib.hid (RC.out.on hO)
  replace RD := Lib.hid (RD.out.on hO)
  replace RP := Lib.hid (RP.out.on hO)
  replace RP2 := Lib.hid (RP2.out.on hO)
  replace RQ := Lib.hid (RQ.out.on hO)
  replace RQ2 := Lib.hid (RQ2.out.on hO)
  replace HX := Lib.hid (HX.out.trans hO)
  clear hO hO1
  go_wp2_with fail
  refine (show Calls Tryd.prog 6 _ _ _ from same_true a _ _ _ HX.out.tab RA.out RC.out).mono ?_
  rintro e w31 ⟨rfl, hO1⟩
  have hO := hO1
  replace RA := Lib.hid (RA.out.on hO)
  replace RB := Lib.hid (RB.out.on hO)
  replace RC := Lib.hid (RC.out.on hO)
  replace RD := Lib.hid (RD.out.on hO)
  replace RP := Lib.hid (RP.out.on hO)
  replace RP2 := Lib.hid (RP2.out.on hO)
  replace RQ := Lib.hid (RQ.out.on hO)
  replace RQ2 := Lib.hid (RQ2.out.on hO)
  replace HX := Lib.hid (HX.out.trans hO)
  clear hO hO1
  go_wp2_with fail
  refine (show Calls Tryd.prog 6 _ _ _ from same_true b _ _ _ HX.out.tab RB.out RD.out).mono ?_
  rintro e w32 ⟨rfl, hO1⟩
  have hO := hO1
  replace RA := Lib.hid (RA.out.on hO)
  replace RB := Lib.hid (RB.out.on hO)
  replace RC := Lib.hid (RC.out.on hO)
  replace RD := Lib.hid (RD.out.on hO)
  replace RP := Lib.hid (RP.out.on hO)
  replace RP2 := Lib.hid (RP2.out.on hO)
  replace RQ := Lib.hid (RQ.out.on hO)
  replace RQ2 := Lib.hid (RQ2.out.on hO)
  replace HX := Lib.hid (HX.out.trans hO)
  clear hO hO1
  go_wp2_with fail
  refine (show Calls Tryd.prog 25 _ _ _ from works_any _ HX.out.tab).mono ?_
  rintro e w33 ⟨rfl, hO1⟩
  have hO := hO1
  replace RA := Lib.hid (RA.out.on hO)
  replace RB := Lib.hid (RB.out.on hO)
  replace RC := Lib.hid (RC.out.on hO)
  replace RD := Lib.hid (RD.out.on hO)
  replace RP := Lib.hid (RP.out.on hO)
  replace RP2 := Lib.hid (RP2.out.on hO)
  replace RQ := Lib.hid (RQ.out.on hO)
  replace RQ2 := Lib.hid (RQ2.out.on hO)
  replace HX := Lib.hid (HX.out.trans hO)
  clear hO hO1
  go_wp2
  go_ret
  exact ⟨rfl, HO0.out.trans HX.out⟩
end Go.Proofs.YtdhacfagmfecgaaDoor
