/- Package system: Words: what the call returns. -/
import Derived.Test.YtbgljelpldnldaaDoorKz23
import Derived.Laws.EntriesVeiled
import Derived.Test.YtbgljelpldnldaaDoorKz09
set_option linter.unusedSimpArgs false
set_option linter.unusedVariables false
/- Package system: Words: what the call returns. -/
namespace Go.Proofs.YtbgljelpldnldaaDoor
open Go.RowKit Go.Lib
set_option linter.unusedVariables false

theorem stt_one {WB w : World} {Z : Nat} {ua : Option Addr} {uc : Nat} {t : List Vr} (hZ : Bk w Z [.slice ua t.length uc]) (hO : Z ≠ WB.heap.size) (h : StV WB w (.slice ua t.length uc) t) : StT WB w (some ⟨Z, 0, none⟩) [t] := fun i hi => by
  obtain rfl : i = 0 := by simp at hi; omega
  exact ⟨Z, 0, ua, uc, rfl, fun wq ho hk => (hZ.kp hk hO).1.2.1 0 _ rfl, h⟩
theorem stt_three {WB w : World} {Z : Nat} {ua ub uc : Option Addr} {ka kb kc : Nat} {r s t : List Vr} (hZ : Bk w Z [.slice ua r.length ka, .slice ub s.length kb, .slice uc t.length kc]) (hO : Z ≠ WB.heap.size) (h1 : StV WB w (.slice ua r.length ka) r) (h2 : StV WB w (.slice ub s.length kb) s) (h3 : StV WB w (.slice uc t.length kc) t) : StT WB w (some ⟨Z, 0, none⟩) [r, s, t] := fun i hi => by
  have hi' : i < 3 := by simpa using hi
  rcases (show i = 0 ∨ i = 1 ∨ i = 2 by omega) with rfl | rfl | rfl
  · exact ⟨Z, 0, ua, ka, rfl, fun wq ho hk => (hZ.kp hk hO).1.2.1 0 _ rfl, h1⟩
  · exact ⟨Z, 0, ub, kb, rfl, fun wq ho hk => (hZ.kp hk hO).1.2.1 1 _ rfl, h2⟩
  · exact ⟨Z, 0, uc, kc, rfl, fun wq ho hk => (hZ.kp hk hO).1.2.1 2 _ rfl, h3⟩
theorem stv_one {WB w : World} {Z : Nat} {k i : Int} (hZ : Bk w Z [.int .u8 k, .int .i64 i]) (hO : Z ≠ WB.heap.size) (ho : okV (k, i)) : StV WB w (.slice (some ⟨Z, 0, none⟩) 1 1) [(k, i)] := fun wq _ hk => vrw_one (hZ.kp hk hO).1 ho
theorem mono_at {w : World} {a : Option Addr} {n c : Nat} {s : List Mo} (h : MRw w (.slice a n c) s) : ∀ i, i < s.length → ∃ b off ua uc, a = some ⟨b, off, none⟩ ∧ ∀ wq, On w wq → wq.cell? ⟨b, off + i * 2, none⟩ = some (.int .u64 (((s.getD i zM).1 : Nat) : Int)) ∧ wq.cell? ⟨b, off + i * 2 + 1, none⟩ = some (.slice ua (s.getD i zM).2.length uc) ∧ VRw wq (.slice ua (s.getD i zM).2.length uc) (s.getD i zM).2 := fun i hi => by
  obtain ⟨b, off, a', c', e, h1, h2, h3⟩ := h.cells i hi
  exact ⟨b, off, a', c', e, fun wq k => ⟨cell_on k h1, cell_on k h2, h3.on k⟩⟩
theorem moB_parts {S : Sy} {ks : List Int} {m : Mo} (h : moB S ks m = true) : m.1 < pOf S.f ∧ m.2.length ≤ 8 ∧ ∀ v ∈ m.2, hasK S ks v = true := by
  unfold moB at h
  simp only [Bool.and_eq_true, decide_eq_true_eq, List.all_eq_true] at h
  exact ⟨h.1.1, h.1.2, h.2⟩
theorem has_pos {S : Sy} {ks : List Int} {t : List Vr} (h : ∀ v ∈ t, hasK S ks v = true) (ho : ∀ v ∈ t, okV v) : ∀ v ∈ t, posV v := fun v hv => by
  have := ho v hv
  unfold okV at this
  exact hasK_pos (by omega) (h v hv)
/-- Numbers as a program keeps them. -/
theorem words_u64 {w : World} {S : Sy} {H : Sh} (hR : SyR w H S) (hv : valSy S = true) : ∀ x ∈ wordsV S, x ≤ 18446744073709551615 := by
  obtain ⟨hsz, hru, hpm, hlk⟩ := valSy_parts hv
  obtain ⟨hvf, f1, f2, f3, f4, f5, f6, f7, f8, f9, fa, fb⟩ := szS_facts hsz
  obtain ⟨⟨g1, g2, g3, g4⟩, r1, r2, r3, r4⟩ := hR
  unfold i64B at g1 g2 g3 g4
  have hV : ∀ (t : List Vr), (∀ v ∈ t, okV v) → ∀ x ∈ vsW t, x ≤ 18446744073709551615 := fun t ht x hx => by
    obtain ⟨v, hv, hx⟩ := List.mem_flatMap.1 hx
    have := ht v hv
    unfold okV at this
    simp only [vN, List.mem_cons, List.not_mem_nil, or_false] at hx
    rcases hx with rfl | rfl <;> omega
  have hT : ∀ {u : Value} {tl : List (List Vr)}, TupL w u tl → ∀ x ∈ tsW tl, x ≤ 18446744073709551615 := fun {u tl} ht x hx => by
    obtain ⟨t, htm, hx⟩ := List.mem_flatMap.1 hx
    obtain ⟨i, hi, rfl⟩ := List.getElem_of_mem htm
    obtain ⟨a, c, rfl⟩ := ht.shape
    obtain ⟨b, off, _, u, _, h2⟩ := ht.cells i hi
    rw [List.getD_eq_getElem?_getD, List.getElem?_eq_getElem hi] at h2
    exact hV _ h2.1 x hx
  intro x hx
  unfold wordsV at hx
  simp only [List.mem_append] at hx
  rcases hx with ((hx | hx) | hx) | hx
  · unfold hdW at hx
    simp only [List.mem_cons, List.not_mem_nil, or_false] at hx
    rcases hx with rfl | rfl | rfl | rfl | rfl | rfl | rfl | rfl <;> omega
  · obtain ⟨r, hr, hx⟩ := List.mem_flatMap.1 hx
    obtain ⟨i, hi, rfl⟩ := List.getElem_of_mem hr
    obtain ⟨b, off, _, ⟨_, h0⟩, u, _, h2⟩ := r2.cells i hi
    rw [List.getD_eq_getElem?_getD, List.getElem?_eq_getElem hi] at h0 h2
    simp only [Option.getD_some] at h0 h2
    unfold ruW at hx
    simp only [List.mem_append, List.mem_cons, List.not_mem_nil, or_false] at hx
    rcases hx with (hx | hx) | hx
    · omega
    · have := (ruB_parts (hru _ (List.getElem_mem hi))).1
      omega
    · obtain ⟨m, hm, hx⟩ := List.mem_flatMap.1 hx
      obtain ⟨j, hj, rfl⟩ := List.getElem_of_mem hm
      obtain ⟨a, c, rfl⟩ := h2.shape
      obtain ⟨_, _, _, _, _, _, _, h3⟩ := h2.cells j hj
      have h4 := h2.1 _ (List.getElem_mem hj)
      rw [List.getD_eq_getElem?_getD, List.getElem?_eq_getElem hj] at h3
      simp only [Option.getD_some] at h3
      unfold moW at hx
      simp only [List.mem_append, List.mem_cons, List.not_mem_nil, or_false] at hx
      rcases hx with (hx | hx) | hx
      · omega
      · have := h3.2.1; omega
      · exact hV _ h3.1 x hx
  · obtain ⟨p, hp, hx⟩ := List.mem_flatMap.1 hx
    obtain ⟨i, hi, rfl⟩ := List.getElem_of_mem hp
    obtain ⟨b, off, _, u, u', _, _, h2, h3⟩ := r3.cells i hi
    rw [List.getD_eq_getElem?_getD, List.getElem?_eq_getElem hi] at h2 h3
    simp only [Option.getD_some] at h2 h3
    obtain ⟨q1, q2, q3, q4, q5⟩ := pmB_parts (hpm _ (List.getElem_mem hi))
    unfold pmW at hx
    simp only [List.mem_append, List.mem_cons, List.not_mem_nil, or_false] at hx
    rcases hx with (hx | hx) | hx | hx
    · omega
    · have := tuB_parts (tnB_parts (q4 _ (mem_getD [] _ 0 (by omega)))).2
      omega
    · exact hT h2 x hx
    · exact hT h3 x hx
  · obtain ⟨l, hl, hx⟩ := List.mem_flatMap.1 hx
    obtain ⟨i, hi, rfl⟩ := List.getElem_of_mem hl
    obtain ⟨b, off, _, u, u', _, _, _, _, h1, h2, h3⟩ := r4.cells i hi
    rw [List.getD_eq_getElem?_getD, List.getElem?_eq_getElem hi] at h1 h2 h3
    simp only [Option.getD_some] at h1 h2 h3
    obtain ⟨q1, q2, q3, q4⟩ := lkB_parts (hlk _ (List.getElem_mem hi))
    have q5 := tuB_parts q2
    unfold lkW at hx
    simp only [List.mem_append, List.mem_cons, List.not_mem_nil, or_false] at hx
    rcases hx with hx | hx | hx | hx
    · omega
    · exact hV _ h2.1 x hx
    · exact hV _ h3.1 x hx
    · exact hV [S.looks[i].ct] (by simpa using h1) x (by simpa [vsW] using hx)
set_option maxHeartbeats 2000000 in
set_option maxRecDepth 100000 in
theorem words13_no (S : Sy) (H : Sh) (w : World) (hT : Tab w) (hR : SyR w H S) (hv : valSy S = false) :
    Calls Tryd.prog 19 #[syA S H] w fun e w' => e = .returned (.slice none 0 0) ∧ On w w' := by
  obtain ⟨W0, hW0⟩ : ∃ W0, W0 = w.alloc (syO S H) := ⟨_, rfl⟩
  have hO0 : On w W0 := by rw [hW0]; exact (On.refl hT).alloc _
  obtain ⟨Q, hQ⟩ : ∃ Q, Q = w.heap.size := ⟨_, rfl⟩
  have HB0 : Hid (VB Q W0 (syL S H)) := by rw [hW0, hQ]; exact Lib.hid (vb_newS S _ w)
  have HSY : Hid (∀ wq, On W0 wq → _) := fun wq h => sy_cells (HB0.out.on h)
  have HVA := Lib.hid (valid13_any S H W0 hO0.tab (hR.on hO0))
  rw [hv] at HVA
  have HOK : Hid (On W0 W0) := Lib.hid (On.refl hO0.tab)
  have HW0 := Lib.hid hW0; have HQ := Lib.hid hQ; have HO0 := Lib.hid hO0
  clear hT hR hW0 hO0 hQ HB0 hv
  go_enter Tryd.func19, Tryd.ntmps19
  go_upto_region 1 with fail
  rw [← HW0.out, ← HQ.out]
  obtain ⟨s0, s1, s2, s3, s4, s5, s6, s7⟩ := HSY.out _ HOK.out
  go_wp2_with (go_at_call 14; (with_reducible refine HVA.out.mono ?_); rintro e w1 ⟨rfl, hO1⟩)
  go_ret
  exact ⟨rfl, HO0.out.trans hO1⟩
set_option maxHeartbeats 8000000 in
set_option maxRecDepth 100000 in
theorem words13_yes (S : Sy) (a1 a2 a3 a4 : Option Addr) (k1 k2 k3 k4 : Nat) (w : World) (hT : Tab w) (hR : SyR w ⟨a1, a2, a3, a4, k1, k2, k3, k4⟩ S) (hv : valSy S = true) :
    Calls Tryd.prog 19 #[syA S ⟨a1, a2, a3, a4, k1, k2, k3, k4⟩] w fun e w' => (∃ v, e = .returned v ∧ NR w' v (wordsV S)) ∧ On w w' := by
  obtain ⟨W0, hW0⟩ : ∃ W0, W0 = w.alloc (syO S ⟨a1, a2, a3, a4, k1, k2, k3, k4⟩) := ⟨_, rfl⟩
  have hO0 : On w W0 := by rw [hW0]; exact (On.refl hT).alloc _
  obtain ⟨Q, hQ⟩ : ∃ Q, Q = w.heap.size := ⟨_, rfl⟩
  have HB0 : Hid (VB Q W0 (syL S ⟨a1, a2, a3, a4, k1, k2, k3, k4⟩)) := by rw [hW0, hQ]; exact Lib.hid (vb_newS S _ w)
  have HSY0 : Hid (∀ wq, On W0 wq → _) := fun wq h => sy_cells (HB0.out.on h)
  have HVA := Lib.hid (valid13_any S ⟨a1, a2, a3, a4, k1, k2, k3, k4⟩ W0 hO0.tab (hR.on hO0))
  rw [hv] at HVA
  have HUU := Lib.hid (words_u64 hR hv)
  have HR := Lib.hid (hR.on hO0)
  have HV := Lib.hid hv
  have HOK : Hid (On W0 W0) := Lib.hid (On.refl hO0.tab)
  have HW0 := Lib.hid hW0; have HQ := Lib.hid hQ; have HO0 := Lib.hid hO0
  clear hT hR hW0 hO0 hQ HB0 hv
  go_enter Tryd.func19, Tryd.ntmps19
  go_upto_region 1 with fail
  rw [← HW0.out, ← HQ.out]
  obtain ⟨s0, s1, s2, s3, s4, s5, s6, s7⟩ := HSY0.out _ HOK.out
  go_upto_region 6 with (go_at_call 14; (with_reducible refine HVA.out.mono ?_); rintro e w1 ⟨rfl, hO1⟩; refine Hid.out ?_)
  refine Lib.hid ?_
  clear s0 s1 s2 s3 s4 s5 s6 s7
  have HO1 := Lib.hid hO1
  have HRB := Lib.hid (HR.out.on hO1)
  have HT1 := Lib.hid hO1.tab
  have HSY : Hid (∀ wq, On w1 wq → _) := fun wq h => HSY0.out wq (HO1.out.trans h)
  clear hO1 HSY0 HR
  obtain ⟨hsz, hru, hpm, hlk⟩ := valSy_parts HV.out
  obtain ⟨hvf, f1, f2, f3, f4, f5, f6, f7, f8, f9, fa, fb⟩ := szS_facts hsz
  go_upto_region 4 with fail
  obtain ⟨V1, hV1⟩ : ∃ V1, V1 = w1.alloc (.cells #[.slice none 0 0] 32) := ⟨_, rfl⟩
  rw [← hV1]
  have hVB : VB w1.heap.size V1 [.slice none 0 0] := by rw [hV1]; exact vb_new w1 #[.slice none 0 0] 32
  have hVs : V1.heap.size = w1.heap.size + 1 := by rw [hV1, World.size_alloc]
  have hVO : On w1 V1 := by rw [hV1]; exact (On.refl HT1.out).alloc _
  have hA2 := (On.refl hVO.tab).alloc (.cells #[numF w1.heap.size] 100)
  have HXW2 : Hid (WX w1 (V1.alloc (.cells #[numF w1.heap.size] 100)) []) := Lib.hid ⟨hVO.trans hA2, .slice none 0 0, hVB.on hA2, World.ownsRow_nil _ _ _ _⟩
  have HNW2 : Hid (Bk (V1.alloc (.cells #[numF w1.heap.size] 100)) (w1.heap.size + 1) [numF w1.heap.size]) := by
    have h := Bk.new V1 #[numF w1.heap.size] 100 (by decide)
    rw [hVs] at h; exact Lib.hid h
  have HVS := Lib.hid hVs
  clear hV1 hVB hVO hA2 hVs
  go_upto_region 6 with fail
  obtain ⟨W2, hW2⟩ : ∃ W2, W2 = V1.alloc (.cells #[numF w1.heap.size] 100) := ⟨_, rfl⟩
  rw [← hW2] at HXW2 HNW2
  rw [← hW2]
  rw [HVS.out]
  clear hW2
  obtain ⟨wl1, wl2, wl3⟩ := words_len HV.out
  have HL1 : Hid (∀ i, i ≤ S.rules.length → (hdW S ++ (S.rules.take i).flatMap ruW).length ≤ 8 + i * 1154) := Lib.hid fun i _ => by rw [List.length_append, hdW_len]; have := wl1 i; omega
  have HL3 : Hid (∀ i, i ≤ S.perms.length → ((hdW S ++ S.rules.flatMap ruW) ++ (S.perms.take i).flatMap pmW).length ≤ 8 + 64 * 1154 + i * 66) := Lib.hid fun i _ => by
    rw [List.length_append, List.length_append, hdW_len]
    have h1 := wl1 S.rules.length; rw [List.take_length] at h1
    have := wl2 i; omega
  have HL4 : Hid (∀ i, i ≤ S.looks.length → (((hdW S ++ S.rules.flatMap ruW) ++ S.perms.flatMap pmW) ++ (S.looks.take i).flatMap lkW).length ≤ 8 + 64 * 1154 + 4 * 66 + i * 19) := Lib.hid fun i _ => by
    rw [List.length_append, List.length_append, List.length_append, hdW_len]
    have h1 := wl1 S.rules.length; rw [List.take_length] at h1
    have h2 := wl2 S.perms.length; rw [List.take_length] at h2
    have := wl3 i; omega
  clear wl1 wl2 wl3
  have HRUB := Lib.hid hru; have HPMB := Lib.hid hpm; have HLKB := Lib.hid hlk
  have hvp : pOf S.f ≤ 998244353 := pOf_le S.f
  have hS0 : 0 ≤ S.f := by have h := hvf; unfold validB at h; simp at h; omega
  have hI : i64s (hdW S) = [.int .i64 S.f, .int .i64 S.rows, .int .i64 S.main, .int .i64 S.pub, .int .i64 ((S.fixed.length : Nat) : Int), .int .i64 ((S.rules.length : Nat) : Int), .int .i64 ((S.perms.length : Nat) : Int), .int .i64 ((S.looks.length : Nat) : Int)] := by
    simp only [i64s, hdW, List.map_cons, List.map_nil]
    rw [Int.toNat_of_nonneg hS0, Int.toNat_of_nonneg (by omega : 0 ≤ S.rows), Int.toNat_of_nonneg (by omega : 0 ≤ S.main), Int.toNat_of_nonneg f6]
  have HC8 : Hid (Calls Tryd.prog 63 #[.slice (some ⟨W2.heap.size, 0, none⟩) 8 8, .pointer (some ⟨w1.heap.size, 0, none⟩)] (W2.alloc (.cells #[.int .i64 S.f, .int .i64 S.rows, .int .i64 S.main, .int .i64 S.pub, .int .i64 ((S.fixed.length : Nat) : Int), .int .i64 ((S.rules.length : Nat) : Int), .int .i64 ((S.perms.length : Nat) : Int), .int .i64 ((S.looks.length : Nat) : Int)] 3)) fun e w' => e = .returned (.tuple #[]) ∧ WX w1 w' ([] ++ hdW S) ∧ KpW w1.heap.size (W2.alloc (.cells #[.int .i64 S.f, .int .i64 S.rows, .int .i64 S.main, .int .i64 S.pub, .int .i64 ((S.fixed.length : Nat) : Int), .int .i64 ((S.rules.length : Nat) : Int), .int .i64 ((S.perms.length : Nat) : Int), .int .i64 ((S.looks.length : Nat) : Int)] 3)) w') :=
    Lib.hid (numbers_any w1 W2.heap.size (hdW S) [] _ (HXW2.out.alloc _) (by rw [hI]; exact Bk.new W2 #[.int .i64 S.f, .int .i64 S.rows, .int .i64 S.main, .int .i64 S.pub, .int .i64 ((S.fixed.length : Nat) : Int), .int .i64 ((S.rules.length : Nat) : Int), .int .i64 ((S.perms.length : Nat) : Int), .int .i64 ((S.looks.length : Nat) : Int)] _ (by decide)) (by obtain ⟨_, v, h, _⟩ := HXW2.out; have := h.1; omega) (by intro x hx; unfold hdW at hx; simp only [List.mem_cons, List.not_mem_nil, or_false] at hx; have g := HRB.out.1; unfold i64B at g; rcases hx with rfl | rfl | rfl | rfl | rfl | rfl | rfl | rfl <;> omega) (by rw [hdW_len]; simp))
  have n0 := HNW2.out.1.2.1 0 _ rfl
  obtain ⟨s0, s1, s2, s3, s4, s5, s6, s7⟩ := HSY.out W2 HXW2.out.1
  clear hI hS0 hru hpm hlk hsz hvf
  have hn1 : S.rules.length ≤ 64 := f9
  have hn2 : S.perms.length ≤ 4 := fa
  have hn3 : S.looks.length ≤ 8 := fb
  clear f1 f2 f3 f4 f5 f6 f7 f8 f9 fa fb
  go_upto_region 7 with (go_at_call 63; (with_reducible refine HC8.out.mono ?_); rintro e w3 ⟨rfl, hX3, hK3⟩; refine Hid.out ?_)
  refine Lib.hid ?_
  have hK3 : KpW w1.heap.size W2 w3 := ((KpW.refl w1.heap.size W2).alloc _).trans hK3
  have HXw3 := Lib.hid hX3
  have HNw3 : Hid (Bk w3 (w1.heap.size + 1) [numF w1.heap.size]) := HNW2.out.kp hK3 (by omega)
  clear hX3 hK3
  rw [List.nil_append] at HXw3
  clear n0 HC8 s0 s1 s2 s3 s4 s5 s6 s7
  obtain ⟨s0, s1, s2, s3, s4, s5, s6, s7⟩ := HSY.out w3 HXw3.out.1
  have HS1 : Hid (∀ i, i < S.rules.length → (hdW S ++ (S.rules.take i).flatMap ruW) ++ ruW (S.rules.getD i zRu) = hdW S ++ (S.rules.take (i + 1)).flatMap ruW) := Lib.hid fun i hi => by rw [flat_snoc ruW zRu S.rules i hi, List.append_assoc]
  have HA1 : Hid (hdW S ++ (S.rules.take S.rules.length).flatMap ruW = hdW S ++ S.rules.flatMap ruW) := by rw [List.take_length]; exact Lib.hid rfl
  have HZ1 : Hid (hdW S ++ (S.rules.take 0).flatMap ruW = hdW S) := Lib.hid (by simp)
  have HRU : Hid (∀ i, i < S.rules.length → ∃ b off ua uc, a2 = some ⟨b, off, none⟩ ∧ (0 ≤ (S.rules.getD i zRu).1 ∧ (S.rules.getD i zRu).1 ≤ 255) ∧ (∀ wq, On w1 wq → wq.cell? ⟨b, off + i * 2, none⟩ = some (.int .u8 (S.rules.getD i zRu).1) ∧ wq.cell? ⟨b, off + i * 2 + 1, none⟩ = some (.slice ua (S.rules.getD i zRu).2.length uc)) ∧ MRw w1 (.slice ua (S.rules.getD i zRu).2.length uc) (S.rules.getD i zRu).2) := fun i hi => by
    obtain ⟨b, off, e, ⟨d0, d0'⟩, u, d1, d2⟩ := HRB.out.2.2.1.cells i hi
    obtain ⟨ua, uc, rfl⟩ := d2.shape
    exact ⟨b, off, ua, uc, e, d0', fun wq h => ⟨cell_on h d0, cell_on h d1⟩, d2⟩
  go_wp2_with fail
  clear s0 s1 s2 s3 s4 s5 s6 s7
  go_loopw [45] (fun vi wr => ∃ i : Nat, i ≤ S.rules.length ∧ vi = .int .i64 (i : Int) ∧ Hid (WX w1 wr (hdW S ++ (S.rules.take i).flatMap ruW)) ∧ Hid (Bk wr (w1.heap.size + 1) [numF w1.heap.size])) (fun vi _ => S.rules.length - (intOf vi).toNat)
  case atStart => exact ⟨0, Nat.zero_le _, rfl, Lib.hid (by rw [HZ1.out]; exact HXw3.out), HNw3⟩
  case round =>
    rename World => wr
    obtain ⟨i, hi, rfl, HXwr, HNwr⟩ := hrel
    clear HXw3 HNw3 HXW2 HNW2
    by_cases hlt : i < S.rules.length
    · have hlt' : (i : Int) < ((S.rules.length : Nat) : Int) := by omega
      obtain ⟨b, off, ua, uc, rfl, ⟨ho1, ho2⟩, hc, hm⟩ := HRU.out i hlt
      obtain ⟨c0, c1⟩ := hc wr HXwr.out.1
      have HS := Lib.hid (HS1.out i hlt)
      have hl1 := HL1.out i hi
      obtain ⟨q1, ks, q2⟩ := ruB_parts (HRUB.out _ (mem_getD zRu S.rules i hlt))
      obtain ⟨r, hr⟩ : ∃ r, r = S.rules.getD i zRu := ⟨_, rfl⟩
      obtain ⟨L1, hL1⟩ : ∃ L1, L1 = hdW S ++ (S.rules.take i).flatMap ruW := ⟨_, rfl⟩
      rw [← hr] at c0 c1 ho1 ho2 hm HS q1 q2
      rw [← hL1] at HS hl1 HXwr
      clear hr hL1 hc
      obtain ⟨on, sum⟩ := r
      simp only at c0 c1 ho1 ho2 hm q1 q2
      obtain ⟨no, rfl⟩ : ∃ no : Nat, on = (no : Int) := ⟨on.toNat, by omega⟩
      have hl1' : L1.length ≤ 80000 := by omega
      have HM := Lib.hid (mono_at hm)
      have HQ2 := Lib.hid q2
      have HSR : Hid (((L1 ++ [no, sum.length]) ++ sum.flatMap moW) = hdW S ++ (S.rules.take (i + 1)).flatMap ruW) := Lib.hid (by rw [← HS.out]; unfold ruW; simp [List.append_assoc])
      have HML : Hid (∀ k, k ≤ sum.length → ((L1 ++ [no, sum.length]) ++ (sum.take k).flatMap moW).length ≤ 80002 + k * 18) := Lib.hid fun k _ => by
        have h := flat_len moW 18 sum (fun m hm => moW_len (q2 m hm)) k
        rw [List.length_append, List.length_append]; simp only [List.length_cons, List.length_nil]; omega
      have HMS : Hid (∀ k, k < sum.length → ((L1 ++ [no, sum.length]) ++ (sum.take k).flatMap moW) ++ moW (sum.getD k zM) = (L1 ++ [no, sum.length]) ++ (sum.take (k + 1)).flatMap moW) := Lib.hid fun k hk => by rw [flat_snoc moW zM sum k hk, List.append_assoc]
      have HMA : Hid ((L1 ++ [no, sum.length]) ++ (sum.take sum.length).flatMap moW = (L1 ++ [no, sum.length]) ++ sum.flatMap moW) := by rw [List.take_length]; exact Lib.hid rfl
      have HMZ : Hid ((L1 ++ [no, sum.length]) ++ (sum.take 0).flatMap moW = L1 ++ [no, sum.length]) := Lib.hid (by simp)
      clear q2 hm HS hl1
      obtain ⟨sn, hsn⟩ : ∃ sn, sn = sum.length := ⟨_, rfl⟩
      rw [← hsn] at c1 q1 HM HSR HML HMS HMA HMZ
      have HSNL := Lib.hid hsn
      clear hsn
      go_upto_region 10 with fail
      obtain ⟨u, hu⟩ : ∃ u, u = wr.alloc (.cells #[.int .u8 ((no : Nat) : Int), .slice ua sn uc] 48) := ⟨_, rfl⟩
      obtain ⟨X, hX⟩ : ∃ X, X = wr.heap.size := ⟨_, rfl⟩
      rw [← hu, ← hX]
      have HBX : Hid (Bk u X [.int .u8 ((no : Nat) : Int), .slice ua sn uc]) := by rw [hu, hX]; exact Lib.hid (Bk.new wr #[.int .u8 ((no : Nat) : Int), .slice ua sn uc] _ (by decide))
      have HXu : Hid (WX w1 u (L1)) := by rw [hu]; exact Lib.hid (HXwr.out.alloc _)
      have HNu : Hid (Bk u (w1.heap.size + 1) [numF w1.heap.size]) := by rw [hu]; exact Lib.hid (HNwr.out.on ((On.refl HXwr.out.1.tab).alloc _))
      have hXO : X ≠ w1.heap.size := by
        obtain ⟨_, v, h, _⟩ := HXwr.out
        have := h.1; omega
      clear hu hX
      have x0 := HBX.out.1.2.1 0 _ rfl
      have x1 := HBX.out.1.2.1 1 _ rfl
      have n0 := HNu.out.1.2.1 0 _ rfl
      have HC10 : Hid (Calls Tryd.prog 63 #[.slice (some ⟨u.heap.size, 0, none⟩) 2 2, .pointer (some ⟨w1.heap.size, 0, none⟩)] (u.alloc (.cells #[.int .i64 ((no : Nat) : Int), .int .i64 ((sn : Nat) : Int)] 3)) fun e w' => e = .returned (.tuple #[]) ∧ WX w1 w' ((L1) ++ [no, sn]) ∧ KpW w1.heap.size (u.alloc (.cells #[.int .i64 ((no : Nat) : Int), .int .i64 ((sn : Nat) : Int)] 3)) w') := Lib.hid (numbers_any w1 u.heap.size [no, sn] (L1) _ (HXu.out.alloc _) (Bk.new u #[.int .i64 ((no : Nat) : Int), .int .i64 ((sn : Nat) : Int)] _ (by decide)) (by obtain ⟨_, v, h, _⟩ := HXu.out; have := h.1; omega) (by intro x hx; simp only [List.mem_cons, List.not_mem_nil, or_false] at hx; omega) (by simp only [List.length_cons, List.length_nil]; omega))
      clear c0 c1
      go_upto_region 11 with (go_at_call 63; (with_reducible refine HC10.out.mono ?_); rintro e w4 ⟨rfl, hX4, hK4⟩; refine Hid.out ?_)
      refine Lib.hid ?_
      have hK4 : KpW w1.heap.size u w4 := ((KpW.refl w1.heap.size u).alloc _).trans hK4
      have HXw4 := Lib.hid hX4
      have HNw4 : Hid (Bk w4 (w1.heap.size + 1) [numF w1.heap.size]) := HNu.out.kp hK4 (by omega)
      have HBXw4 := Lib.hid (HBX.out.kp hK4 hXO)
      clear hX4 hK4
      clear x0 x1 n0 HC10 HBX HXu HNu
      have x0 := HBXw4.out.1.2.1 0 _ rfl
      have x1 := HBXw4.out.1.2.1 1 _ rfl
      go_wp2_with fail
      clear x0 x1
      go_loopw [61] (fun vk wv => ∃ k : Nat, k ≤ sn ∧ vk = .int .i64 (k : Int) ∧ Hid (WX w1 wv ((L1 ++ [no, sn]) ++ (sum.take k).flatMap moW)) ∧ Hid (Bk wv (w1.heap.size + 1) [numF w1.heap.size])) (fun vk _ => sn - (intOf vk).toNat)
      case atStart => exact ⟨0, Nat.zero_le _, rfl, Lib.hid (by rw [HMZ.out]; exact HXw4.out), HNw4⟩
      case round =>
        rename World => wv
        obtain ⟨k, hk, rfl, HXwv, HNwv⟩ := hrel
        clear HXw4 HNw4 HBXw4 HXwr HNwr
        by_cases hkt : k < sn
        · have hkt' : (k : Int) < (sn : Int) := by omega
          obtain ⟨bm, om, va, vc, rfl, hc⟩ := HM.out k hkt
          obtain ⟨c0, c1, -⟩ := hc wv HXwv.out.1
          have HVR := Lib.hid (hc w1 (On.refl HT1.out)).2.2
          have HSk := Lib.hid (HMS.out k hkt)
          have hlk := HML.out k hk
          obtain ⟨m1, m2, m3⟩ := moB_parts (HQ2.out _ (mem_getD zM sum k (by rw [← HSNL.out]; exact hkt)))
          obtain ⟨m, hm⟩ : ∃ m, m = sum.getD k zM := ⟨_, rfl⟩
          obtain ⟨L2, hL2⟩ : ∃ L2, L2 = (L1 ++ [no, sn]) ++ (sum.take k).flatMap moW := ⟨_, rfl⟩
          rw [← hm] at c0 c1 HVR HSk m1 m2 m3
          rw [← hL2] at HSk hlk HXwv
          clear hm hL2 hc
          obtain ⟨cf, vs⟩ := m
          simp only at c0 c1 HVR m1 m2 m3
          have hcf : cf ≤ 998244353 := by omega
          have hl2 : L2.length ≤ 90000 := by omega
          have HPV := Lib.hid (has_pos m3 HVR.out.1)
          have HSM : Hid ((L2 ++ [cf, vs.length]) ++ tsW [vs] = (L1 ++ [no, sn]) ++ (sum.take (k + 1)).flatMap moW) := Lib.hid (by rw [← HSk.out]; unfold moW tsW; simp [List.append_assoc])
          have hvt : (tsW [vs]).length ≤ 16 := by unfold tsW; simp only [List.flatMap_cons, List.flatMap_nil, List.append_nil]; rw [vsW_len]; omega
          clear HSk m1 m3 hlk
          have hvn : vs.length ≤ 8 := m2
          have HVT := Lib.hid hvt
          clear hvt m2
          obtain ⟨vn, hvn2⟩ : ∃ vn, vn = vs.length := ⟨_, rfl⟩
          rw [← hvn2] at c1 HVR HSM hvn
          have HVN := Lib.hid hvn2
          clear hvn2
          go_upto_region 14 with fail
          obtain ⟨u2, hu2⟩ : ∃ u2, u2 = wv.alloc (.cells #[.int .u64 ((cf : Nat) : Int), .slice va vn vc] 87) := ⟨_, rfl⟩
          obtain ⟨Y, hY⟩ : ∃ Y, Y = wv.heap.size := ⟨_, rfl⟩
          rw [← hu2, ← hY]
          have HBY : Hid (Bk u2 Y [.int .u64 ((cf : Nat) : Int), .slice va vn vc]) := by rw [hu2, hY]; exact Lib.hid (Bk.new wv #[.int .u64 ((cf : Nat) : Int), .slice va vn vc] _ (by decide))
          have HXu2 : Hid (WX w1 u2 (L2)) := by rw [hu2]; exact Lib.hid (HXwv.out.alloc _)
          have HNu2 : Hid (Bk u2 (w1.heap.size + 1) [numF w1.heap.size]) := by rw [hu2]; exact Lib.hid (HNwv.out.on ((On.refl HXwv.out.1.tab).alloc _))
          have hYO : Y ≠ w1.heap.size := by
            obtain ⟨_, v, h, _⟩ := HXwv.out
            have := h.1; omega
          clear hu2 hY
          have y0 := HBY.out.1.2.1 0 _ rfl
          have y1 := HBY.out.1.2.1 1 _ rfl
          have n0 := HNu2.out.1.2.1 0 _ rfl
          have HC14 : Hid (Calls Tryd.prog 63 #[.slice (some ⟨u2.heap.size, 0, none⟩) 2 2, .pointer (some ⟨w1.heap.size, 0, none⟩)] (u2.alloc (.cells #[.int .i64 ((cf : Nat) : Int), .int .i64 ((vn : Nat) : Int)] 3)) fun e w' => e = .returned (.tuple #[]) ∧ WX w1 w' ((L2) ++ [cf, vn]) ∧ KpW w1.heap.size (u2.alloc (.cells #[.int .i64 ((cf : Nat) : Int), .int .i64 ((vn : Nat) : Int)] 3)) w') := Lib.hid (numbers_any w1 u2.heap.size [cf, vn] (L2) _ (HXu2.out.alloc _) (Bk.new u2 #[.int .i64 ((cf : Nat) : Int), .int .i64 ((vn : Nat) : Int)] _ (by decide)) (by obtain ⟨_, v, h, _⟩ := HXu2.out; have := h.1; omega) (by intro x hx; simp only [List.mem_cons, List.not_mem_nil, or_false] at hx; omega) (by simp only [List.length_cons, List.length_nil]; omega))
          clear c0 c1
          go_upto_region 15 with (go_at_call 63; (with_reducible refine HC14.out.mono ?_); rintro e w5 ⟨rfl, hX5, hK5⟩; refine Hid.out ?_)
          refine Lib.hid ?_
          have hK5 : KpW w1.heap.size u2 w5 := ((KpW.refl w1.heap.size u2).alloc _).trans hK5
          have HXw5 := Lib.hid hX5
          have HNw5 : Hid (Bk w5 (w1.heap.size + 1) [numF w1.heap.size]) := HNu2.out.kp hK5 (by omega)
          have HBYw5 := Lib.hid (HBY.out.kp hK5 hYO)
          clear hX5 hK5
          clear y0 y1 n0 HC14 HBY HXu2 HNu2
          have y0 := HBYw5.out.1.2.1 0 _ rfl
          have y1 := HBYw5.out.1.2.1 1 _ rfl
          have HC15 : Hid (Calls Tryd.prog 64 #[.slice (some ⟨w5.heap.size, 0, none⟩) 1 1, .pointer (some ⟨w1.heap.size + 1, 0, none⟩)] (w5.alloc (.cells #[.slice va vn vc] 57)) fun e w' => e = .returned (.tuple #[]) ∧ WX w1 w' ((L2 ++ [cf, vn]) ++ tsW [vs]) ∧ KpW w1.heap.size (w5.alloc (.cells #[.slice va vn vc] 57)) w') := by
            have h := variables_any w1 [vs] (some ⟨w5.heap.size, 0, none⟩) 1 (L2 ++ [cf, vn]) (w5.alloc (.cells #[.slice va vn vc] 57)) (HXw5.out.alloc _) (HNw5.out.on ((On.refl HXw5.out.1.tab).alloc _))
              (stt_one (uc := vc) (ua := va) (by rw [← HVN.out]; exact Bk.new w5 #[.slice va vn vc] _ (by decide)) (by obtain ⟨_, v, h, _⟩ := HXw5.out; have := h.1; omega) (by rw [← HVN.out]; exact HVR.out.stv _))
              (fun t ht => by rw [List.mem_singleton] at ht; subst ht; exact HPV.out) (by simp) (by have := HVT.out; rw [List.length_append]; simp only [List.length_cons, List.length_nil]; omega)
            exact Lib.hid h
          go_wp2_with (go_at_call 64; (with_reducible refine HC15.out.mono ?_); rintro e w6 ⟨rfl, hX6, hK6⟩; refine Hid.out ?_)
          refine Lib.hid ?_
          have hK6 : KpW w1.heap.size w5 w6 := ((KpW.refl w1.heap.size w5).alloc _).trans hK6
          have HXw6 := Lib.hid hX6
          have HNw6 : Hid (Bk w6 (w1.heap.size + 1) [numF w1.heap.size]) := HNw5.out.kp hK6 (by omega)
          clear hX6 hK6
          rw [HSM.out] at HXw6
          go_wp2
          go_roundw
          case rel => exact ⟨k + 1, by omega, by simp, HXw6, HNw6⟩
          case measure => simp [intOf]; omega
        · obtain rfl : sn = k := by omega
          rw [HMA.out, HSR.out] at HXwv
          go_wp2
          go_roundw
          case rel => exact ⟨i + 1, by omega, by simp, HXwv, HNwv⟩
          case measure => simp [intOf]; omega
    · obtain rfl : S.rules.length = i := by omega
      rw [HA1.out] at HXwr
      obtain ⟨s0, s1, s2, s3, s4, s5, s6, s7⟩ := HSY.out wr HXwr.out.1
      have HS3 : Hid (∀ i, i < S.perms.length → ((hdW S ++ S.rules.flatMap ruW) ++ (S.perms.take i).flatMap pmW) ++ pmW (S.perms.getD i zPm) = (hdW S ++ S.rules.flatMap ruW) ++ (S.perms.take (i + 1)).flatMap pmW) := Lib.hid fun i hi => by rw [flat_snoc pmW zPm S.perms i hi, List.append_assoc]
      have HA3 : Hid ((hdW S ++ S.rules.flatMap ruW) ++ (S.perms.take S.perms.length).flatMap pmW = (hdW S ++ S.rules.flatMap ruW) ++ S.perms.flatMap pmW) := by rw [List.take_length]; exact Lib.hid rfl
      have HZ3 : Hid ((hdW S ++ S.rules.flatMap ruW) ++ (S.perms.take 0).flatMap pmW = hdW S ++ S.rules.flatMap ruW) := Lib.hid (by simp)
      have HPM : Hid (∀ i, i < S.perms.length → ∃ b off ua uc va vc, a3 = some ⟨b, off, none⟩ ∧ (∀ wq, On w1 wq → wq.cell? ⟨b, off + i * 2, none⟩ = some (.slice ua (S.perms.getD i zPm).1.length uc) ∧ wq.cell? ⟨b, off + i * 2 + 1, none⟩ = some (.slice va (S.perms.getD i zPm).2.length vc)) ∧ TupL w1 (.slice ua (S.perms.getD i zPm).1.length uc) (S.perms.getD i zPm).1 ∧ TupL w1 (.slice va (S.perms.getD i zPm).2.length vc) (S.perms.getD i zPm).2) := fun i hi => by
        obtain ⟨b, off, e, u, u', d0, d1, d2, d3⟩ := HRB.out.2.2.2.1.cells i hi
        obtain ⟨ua, uc, rfl⟩ := d2.shape
        obtain ⟨va, vc, rfl⟩ := d3.shape
        exact ⟨b, off, ua, uc, va, vc, e, fun wq h => ⟨cell_on h d0, cell_on h d1⟩, d2, d3⟩
      go_wp2_with fail
      clear s0 s1 s2 s3 s4 s5 s6 s7
      go_loopw [84] (fun vi wq => ∃ i : Nat, i ≤ S.perms.length ∧ vi = .int .i64 (i : Int) ∧ Hid (WX w1 wq ((hdW S ++ S.rules.flatMap ruW) ++ (S.perms.take i).flatMap pmW)) ∧ Hid (Bk wq (w1.heap.size + 1) [numF w1.heap.size])) (fun vi _ => S.perms.length - (intOf vi).toNat)
      case atStart => exact ⟨0, Nat.zero_le _, rfl, Lib.hid (by rw [HZ3.out]; exact HXwr.out), HNwr⟩
      case round =>
        rename World => wq
        obtain ⟨i, hi, rfl, HXwq, HNwq⟩ := hrel
        clear HXwr HNwr
        by_cases hlt : i < S.perms.length
        · have hlt' : (i : Int) < ((S.perms.length : Nat) : Int) := by omega
          obtain ⟨b, off, ua, uc, va, vc, rfl, hc, ht1, ht2⟩ := HPM.out i hlt
          obtain ⟨c0, c1⟩ := hc wq HXwq.out.1
          have HS := Lib.hid (HS3.out i hlt)
          have hl1 := HL3.out i hi
          obtain ⟨q1, q2, q3, q4, q5⟩ := pmB_parts (HPMB.out _ (mem_getD zPm S.perms i hlt))
          obtain ⟨p, hp⟩ : ∃ p, p = S.perms.getD i zPm := ⟨_, rfl⟩
          obtain ⟨L1, hL1⟩ : ∃ L1, L1 = (hdW S ++ S.rules.flatMap ruW) ++ (S.perms.take i).flatMap pmW := ⟨_, rfl⟩
          rw [← hp] at c0 c1 ht1 ht2 HS q1 q2 q3 q4 q5
          rw [← hL1] at HS hl1 HXwq
          clear hp hL1 hc
          obtain ⟨lt, rt⟩ := p
          simp only at c0 c1 ht1 ht2 q1 q2 q3 q4 q5
          have hl1' : L1.length ≤ 80000 := by omega
          have hok : ∀ {u : Value} {tl : List (List Vr)}, TupL w1 u tl → (∀ t ∈ tl, tnB S (lt.getD 0 []).length t = true) → ∀ t ∈ tl, ∀ v ∈ t, posV v := fun {u tl} ht h t htm => by
            obtain ⟨j, hj, rfl⟩ := List.getElem_of_mem htm
            obtain ⟨a, c, rfl⟩ := ht.shape
            obtain ⟨_, _, _, u, _, h2⟩ := ht.cells j hj
            rw [List.getD_eq_getElem?_getD, List.getElem?_eq_getElem hj] at h2
            exact has_pos (tuB_parts (tnB_parts (h _ htm)).2).2.2 h2.1
          have HPL := Lib.hid (hok ht1 q4)
          have HPR := Lib.hid (hok ht2 q5)
          have HTL := Lib.hid ht1
          have HTR := Lib.hid ht2
          have hb1 := tsW_len q2 q4 lt.length
          have hb2 := tsW_len (by omega : rt.length ≤ 4) q5 rt.length
          rw [List.take_length] at hb1 hb2
          have hbl : (tsW lt).length ≤ 32 := by omega
          have hbr : (tsW rt).length ≤ 32 := by omega
          have hn0 : (lt.getD 0 []).length ≤ 4 := (tuB_parts (tnB_parts (q4 _ (mem_getD [] lt 0 (by omega)))).2).2.1
          obtain ⟨fb, fo, ta, tc, hua, hf, -⟩ := ht1.stt w1 0 (by omega)
          rw [Nat.add_zero] at hf
          subst hua
          have HF := Lib.hid (fun wz (h : On w1 wz) => cell_on h (hf w1 (On.refl HT1.out) (KpW.refl _ _)))
          have HSR : Hid ((((L1 ++ [lt.length, (lt.getD 0 []).length]) ++ tsW lt) ++ tsW rt) = (hdW S ++ S.rules.flatMap ruW) ++ (S.perms.take (i + 1)).flatMap pmW) := Lib.hid (by rw [← HS.out]; unfold pmW; simp [List.append_assoc])
          have HBL := Lib.hid hbl; have HBR := Lib.hid hbr
          clear hok q4 q5 ht1 ht2 HS hl1 hb1 hb2 hf hbl hbr
          have hll : lt.length ≤ 4 := q2
          have hll0 : 0 < lt.length := q1
          have hrl : rt.length ≤ 4 := by omega
          obtain ⟨tn, htn⟩ : ∃ tn, tn = (lt.getD 0 []).length := ⟨_, rfl⟩
          rw [← htn] at hn0 HSR HF
          clear htn q1 q2 q3
          obtain ⟨ln, hln⟩ : ∃ ln, ln = lt.length := ⟨_, rfl⟩
          obtain ⟨rn, hrn⟩ : ∃ rn, rn = rt.length := ⟨_, rfl⟩
          have HLN := Lib.hid hln; have HRN := Lib.hid hrn
          rw [← hln] at c0 HSR hll hll0
          rw [← hrn] at c1 hrl
          clear hln hrn
          go_upto_region 21 with fail
          obtain ⟨u, hu⟩ : ∃ u, u = wq.alloc (.cells #[.slice (some ⟨fb, fo, none⟩) ln uc, .slice va rn vc] 60) := ⟨_, rfl⟩
          obtain ⟨X, hX⟩ : ∃ X, X = wq.heap.size := ⟨_, rfl⟩
          rw [← hu, ← hX]
          have HBX : Hid (Bk u X [.slice (some ⟨fb, fo, none⟩) ln uc, .slice va rn vc]) := by rw [hu, hX]; exact Lib.hid (Bk.new wq #[.slice (some ⟨fb, fo, none⟩) ln uc, .slice va rn vc] _ (by decide))
          have HXu : Hid (WX w1 u (L1)) := by rw [hu]; exact Lib.hid (HXwq.out.alloc _)
          have HNu : Hid (Bk u (w1.heap.size + 1) [numF w1.heap.size]) := by rw [hu]; exact Lib.hid (HNwq.out.on ((On.refl HXwq.out.1.tab).alloc _))
          have hXO : X ≠ w1.heap.size := by
            obtain ⟨_, v, h, _⟩ := HXwq.out
            have := h.1; omega
          clear hu hX
          obtain ⟨uD, huD⟩ : ∃ uD, uD = u.drew := ⟨_, rfl⟩
          have HUD : Hid (On u uD) := by rw [huD]; exact Lib.hid (On.refl HXu.out.1.tab).drew
          have HXuD : Hid (WX w1 uD L1) := Lib.hid (HXu.out.on HUD.out)
          have HNuD := Lib.hid (HNu.out.on HUD.out)
          have HBXD := Lib.hid (HBX.out.on HUD.out)
          have hSd : On uD uD := On.refl HXuD.out.1.tab
          have HSD : Hid (∀ w', On uD w' → w'.cell? ⟨X, 0, none⟩ = some (.slice (some ⟨fb, fo, none⟩) ln uc) ∧ w'.cell? ⟨X, 1, none⟩ = some (.slice va rn vc) ∧ w'.cell? ⟨w1.heap.size + 1, 0, none⟩ = some (numF w1.heap.size) ∧ w'.cell? ⟨fb, fo, none⟩ = some (.slice ta tn tc)) := Lib.hid fun w' h => ⟨(HBXD.out.1.on h).2.1 0 _ rfl, (HBXD.out.1.on h).2.1 1 _ rfl, (HNuD.out.1.on h).2.1 0 _ rfl, HF.out w' (HXuD.out.1.trans h)⟩
          have hll0' : (0 : Int) < (ln : Int) := by omega
          have HC21 : Hid (Calls Tryd.prog 63 #[.slice (some ⟨uD.heap.size, 0, none⟩) 2 2, .pointer (some ⟨w1.heap.size, 0, none⟩)] (uD.alloc (.cells #[.int .i64 ((ln : Nat) : Int), .int .i64 ((tn : Nat) : Int)] 3)) fun e w' => e = .returned (.tuple #[]) ∧ WX w1 w' ((L1) ++ [ln, tn]) ∧ KpW w1.heap.size (uD.alloc (.cells #[.int .i64 ((ln : Nat) : Int), .int .i64 ((tn : Nat) : Int)] 3)) w') := Lib.hid (numbers_any w1 uD.heap.size [ln, tn] (L1) _ (HXuD.out.alloc _) (Bk.new uD #[.int .i64 ((ln : Nat) : Int), .int .i64 ((tn : Nat) : Int)] _ (by decide)) (by obtain ⟨_, v, h, _⟩ := HXuD.out; have := h.1; omega) (by intro x hx; simp only [List.mem_cons, List.not_mem_nil, or_false] at hx; omega) (by simp only [List.length_cons, List.length_nil]; omega))
          clear c0 c1
          refine region_head_tail (S := fun wx => On uD wx) 10 (by kernel_rfl) (by kernel_rfl) ?_
          rw [← huD]
          clear huD
          refine HeadG.take (i := 0) (v := ?hvp0) rfl (by kernel_rfl) (by kernel_rfl) (by kernel_rfl) (by kernel_rfl) (by kernel_rfl) (by kernel_rfl) (by kernel_rfl) (fun _ _ _ h => h) (Or.inl ⟨by rfl, ?hyp0⟩) hSd ?hrp0
          case hyp0 => (intro w' hSw; obtain ⟨z0, z1, z2, z3⟩ := HSD.out w' hSw; go_simp; try with_reducible rfl)
          try simp only [Act.put, List.setIfInBounds_toArray, List.set_cons_zero, List.set_cons_succ, List.getElem_toArray, List.getElem_cons_zero, List.getElem_cons_succ]
          refine HeadG.take (i := 1) (v := ?hvp1) rfl (by kernel_rfl) (by kernel_rfl) (by kernel_rfl) (by kernel_rfl) (by kernel_rfl) (by kernel_rfl) (by kernel_rfl) (fun _ _ _ h => h) (Or.inl ⟨by rfl, ?hyp1⟩) hSd ?hrp1
          case hyp1 => (intro w' hSw; obtain ⟨z0, z1, z2, z3⟩ := HSD.out w' hSw; go_simp; try with_reducible rfl)
          try simp only [Act.put, List.setIfInBounds_toArray, List.set_cons_zero, List.set_cons_succ, List.getElem_toArray, List.getElem_cons_zero, List.getElem_cons_succ]
          refine HeadG.take (i := 2) (v := ?hvp2) rfl (by kernel_rfl) (by kernel_rfl) (by kernel_rfl) (by kernel_rfl) (by kernel_rfl) (by kernel_rfl) (by kernel_rfl) (fun _ _ _ h => h) (Or.inl ⟨by rfl, ?hyp2⟩) hSd ?hrp2
          case hyp2 => (intro w' hSw; obtain ⟨z0, z1, z2, z3⟩ := HSD.out w' hSw; go_simp; try with_reducible rfl)
          try simp only [Act.put, List.setIfInBounds_toArray, List.set_cons_zero, List.set_cons_succ, List.getElem_toArray, List.getElem_cons_zero, List.getElem_cons_succ]
          refine HeadG.take (i := 3) (v := ?hvp3) rfl (by kernel_rfl) (by kernel_rfl) (by kernel_rfl) (by kernel_rfl) (by kernel_rfl) (by kernel_rfl) (by kernel_rfl) (fun _ _ _ h => h) (Or.inl ⟨by rfl, ?hyp3⟩) hSd ?hrp3
          case hyp3 => (intro w' hSw; obtain ⟨z0, z1, z2, z3⟩ := HSD.out w' hSw; go_simp; try with_reducible rfl)
          try simp only [Act.put, List.setIfInBounds_toArray, List.set_cons_zero, List.set_cons_succ, List.getElem_toArray, List.getElem_cons_zero, List.getElem_cons_succ]
          refine HeadG.take (i := 4) (v := ?hvp4) rfl (by kernel_rfl) (by kernel_rfl) (by kernel_rfl) (by kernel_rfl) (by kernel_rfl) (by kernel_rfl) (by kernel_rfl) (fun _ _ _ h => h) (Or.inl ⟨by rfl, ?hyp4⟩) hSd ?hrp4
          case hyp4 => (intro w' hSw; obtain ⟨z0, z1, z2, z3⟩ := HSD.out w' hSw; go_simp; try with_reducible rfl)
          try simp only [Act.put, List.setIfInBounds_toArray, List.set_cons_zero, List.set_cons_succ, List.getElem_toArray, List.getElem_cons_zero, List.getElem_cons_succ]
          refine HeadG.take (i := 5) (v := ?hvp5) rfl (by kernel_rfl) (by kernel_rfl) (by kernel_rfl) (by kernel_rfl) (by kernel_rfl) (by kernel_rfl) (by kernel_rfl) (fun _ _ _ h => h) (Or.inl ⟨by rfl, ?hyp5⟩) hSd ?hrp5
          case hyp5 => (intro w' hSw; obtain ⟨z0, z1, z2, z3⟩ := HSD.out w' hSw; go_simp; try with_reducible rfl)
          try simp only [Act.put, List.setIfInBounds_toArray, List.set_cons_zero, List.set_cons_succ, List.getElem_toArray, List.getElem_cons_zero, List.getElem_cons_succ]
          refine HeadG.take (i := 6) (v := ?hvp6) rfl (by kernel_rfl) (by kernel_rfl) (by kernel_rfl) (by kernel_rfl) (by kernel_rfl) (by kernel_rfl) (by kernel_rfl) (fun _ _ _ h => h) (Or.inl ⟨by rfl, ?hyp6⟩) hSd ?hrp6
          case hyp6 => (intro w' hSw; obtain ⟨z0, z1, z2, z3⟩ := HSD.out w' hSw; go_simp; try with_reducible rfl)
          try simp only [Act.put, List.setIfInBounds_toArray, List.set_cons_zero, List.set_cons_succ, List.getElem_toArray, List.getElem_cons_zero, List.getElem_cons_succ]
          refine HeadG.take (i := 7) (v := ?hvp7) rfl (by kernel_rfl) (by kernel_rfl) (by kernel_rfl) (by kernel_rfl) (by kernel_rfl) (by kernel_rfl) (by kernel_rfl) (fun _ _ _ h => h) (Or.inl ⟨by rfl, ?hyp7⟩) hSd ?hrp7
          case hyp7 => (intro w' hSw; obtain ⟨z0, z1, z2, z3⟩ := HSD.out w' hSw; go_simp; try with_reducible rfl)
          try simp only [Act.put, List.setIfInBounds_toArray, List.set_cons_zero, List.set_cons_succ, List.getElem_toArray, List.getElem_cons_zero, List.getElem_cons_succ]
          refine HeadG.take (i := 8) (v := ?hvp8) rfl (by kernel_rfl) (by kernel_rfl) (by kernel_rfl) (by kernel_rfl) (by kernel_rfl) (by kernel_rfl) (by kernel_rfl) (fun _ _ _ h => h) (Or.inl ⟨by rfl, ?hyp8⟩) hSd ?hrp8
          case hyp8 => (intro w' hSw; obtain ⟨z0, z1, z2, z3⟩ := HSD.out w' hSw; go_simp; try with_reducible rfl)
          try simp only [Act.put, List.setIfInBounds_toArray, List.set_cons_zero, List.set_cons_succ, List.getElem_toArray, List.getElem_cons_zero, List.getElem_cons_succ]
          refine HeadG.one (i := 9) rfl (by kernel_rfl) (by kernel_rfl) (fun K9 hK9 => ?_)
          go_simp
          refine hK9.out _ _ (hSd.alloc _) ?_
          clear hK9 K9
          try simp only [Act.put, List.setIfInBounds_toArray, List.set_cons_zero, List.set_cons_succ, List.getElem_toArray, List.getElem_cons_zero, List.getElem_cons_succ]
          refine HeadG.last (i := 10) rfl (by kernel_rfl) (by kernel_rfl) (by kernel_rfl) (fun K9 hK9 => ?_)
          go_simp
          go_at_call 63
          with_reducible refine HC21.out.mono ?_
          rintro e w4 ⟨rfl, hX4, hK4⟩
          refine hK9.out _ _ ?_
          clear hK9 K9
          try simp only [Act.put, List.setIfInBounds_toArray, List.set_cons_zero, List.set_cons_succ, List.getElem_toArray, List.getElem_cons_zero, List.getElem_cons_succ]
          have hK4 : KpW w1.heap.size uD w4 := ((KpW.refl w1.heap.size uD).alloc _).trans hK4
          have HXw4 := Lib.hid hX4
          have HNw4 : Hid (Bk w4 (w1.heap.size + 1) [numF w1.heap.size]) := HNuD.out.kp hK4 (by omega)
          have HBXw4 := Lib.hid (HBXD.out.kp hK4 hXO)
          clear hX4 hK4 HC21 HSD hSd HBX HXu HNu HXuD HNuD HBXD
          have x0 := HBXw4.out.1.2.1 0 _ rfl
          have x1 := HBXw4.out.1.2.1 1 _ rfl
          have HC22 : Hid (Calls Tryd.prog 64 #[.slice (some ⟨fb, fo, none⟩) ln uc, .pointer (some ⟨w1.heap.size + 1, 0, none⟩)] w4 fun e w' => e = .returned (.tuple #[]) ∧ WX w1 w' ((L1 ++ [ln, tn]) ++ tsW lt) ∧ KpW w1.heap.size w4 w') := by
            rw [HLN.out]
            exact Lib.hid (variables_any w1 lt _ uc (L1 ++ [lt.length, tn]) w4 (by rw [← HLN.out]; exact HXw4.out) HNw4.out (HTL.out.stt _) HPL.out (by rw [← HLN.out]; omega) (by have := HBL.out; rw [List.length_append]; simp only [List.length_cons, List.length_nil]; omega))
          go_upto_region 23 with (go_at_call 64; (with_reducible refine HC22.out.mono ?_); rintro e w5 ⟨rfl, hX5, hK5⟩; refine Hid.out ?_)
          refine Lib.hid ?_
          have HXw5 := Lib.hid hX5
          have HNw5 : Hid (Bk w5 (w1.heap.size + 1) [numF w1.heap.size]) := HNw4.out.kp hK5 (by omega)
          have HBXw5 := Lib.hid (HBXw4.out.kp hK5 hXO)
          clear hX5 hK5 HC22 HXw4 HNw4 HBXw4 x0 x1
          have x0 := HBXw5.out.1.2.1 0 _ rfl
          have x1 := HBXw5.out.1.2.1 1 _ rfl
          have HC23 : Hid (Calls Tryd.prog 64 #[.slice va rn vc, .pointer (some ⟨w1.heap.size + 1, 0, none⟩)] w5 fun e w' => e = .returned (.tuple #[]) ∧ WX w1 w' (((L1 ++ [ln, tn]) ++ tsW lt) ++ tsW rt) ∧ KpW w1.heap.size w5 w') := by
            rw [HRN.out]
            exact Lib.hid (variables_any w1 rt _ vc ((L1 ++ [ln, tn]) ++ tsW lt) w5 HXw5.out HNw5.out (HTR.out.stt _) HPR.out (by rw [← HRN.out]; omega) (by have := HBL.out; have := HBR.out; rw [List.length_append, List.length_append]; simp only [List.length_cons, List.length_nil]; omega))
          go_wp2_with (go_at_call 64; (with_reducible refine HC23.out.mono ?_); rintro e w6 ⟨rfl, hX6, hK6⟩; refine Hid.out ?_)
          refine Lib.hid ?_
          have HXw6 := Lib.hid hX6
          have HNw6 : Hid (Bk w6 (w1.heap.size + 1) [numF w1.heap.size]) := HNw5.out.kp hK6 (by omega)
          clear hX6 hK6 HC23 HXw5 HNw5 HBXw5 x0 x1
          rw [HSR.out] at HXw6
          go_wp2
          go_roundw
          case rel => exact ⟨i + 1, by omega, by simp, HXw6, HNw6⟩
          case measure => simp [intOf]; omega
        · obtain rfl : S.perms.length = i := by omega
          rw [HA3.out] at HXwq
          obtain ⟨s0, s1, s2, s3, s4, s5, s6, s7⟩ := HSY.out wq HXwq.out.1
          have HS4 : Hid (∀ i, i < S.looks.length → (((hdW S ++ S.rules.flatMap ruW) ++ S.perms.flatMap pmW) ++ (S.looks.take i).flatMap lkW) ++ lkW (S.looks.getD i zLk) = ((hdW S ++ S.rules.flatMap ruW) ++ S.perms.flatMap pmW) ++ (S.looks.take (i + 1)).flatMap lkW) := Lib.hid fun i hi => by rw [flat_snoc lkW zLk S.looks i hi, List.append_assoc]
          have HA4 : Hid (((hdW S ++ S.rules.flatMap ruW) ++ S.perms.flatMap pmW) ++ (S.looks.take S.looks.length).flatMap lkW = wordsV S) := by rw [List.take_length]; exact Lib.hid rfl
          have HZ4 : Hid (((hdW S ++ S.rules.flatMap ruW) ++ S.perms.flatMap pmW) ++ (S.looks.take 0).flatMap lkW = (hdW S ++ S.rules.flatMap ruW) ++ S.perms.flatMap pmW) := Lib.hid (by simp)
          have HLK : Hid (∀ i, i < S.looks.length → ∃ b off ua uc va vc, a4 = some ⟨b, off, none⟩ ∧ (∀ wq, On w1 wq → wq.cell? ⟨b, off + i * 4, none⟩ = some (.slice ua (S.looks.getD i zLk).tu.length uc) ∧ wq.cell? ⟨b, off + i * 4 + 1, none⟩ = some (.slice va (S.looks.getD i zLk).ta.length vc) ∧ wq.cell? ⟨b, off + i * 4 + 2, none⟩ = some (.int .u8 (S.looks.getD i zLk).ct.1) ∧ wq.cell? ⟨b, off + i * 4 + 3, none⟩ = some (.int .i64 (S.looks.getD i zLk).ct.2)) ∧ okV (S.looks.getD i zLk).ct ∧ VRw w1 (.slice ua (S.looks.getD i zLk).tu.length uc) (S.looks.getD i zLk).tu ∧ VRw w1 (.slice va (S.looks.getD i zLk).ta.length vc) (S.looks.getD i zLk).ta) := fun i hi => by
            obtain ⟨b, off, e, u, u', d0, d1, d2, d3, d4, d5, d6⟩ := HRB.out.2.2.2.2.cells i hi
            obtain ⟨ua, uc, rfl⟩ := d5.shape
            obtain ⟨va, vc, rfl⟩ := d6.shape
            exact ⟨b, off, ua, uc, va, vc, e, fun wq h => ⟨cell_on h d0, cell_on h d1, cell_on h d2, cell_on h d3⟩, d4, d5, d6⟩
          go_wp2_with fail
          clear s0 s1 s2 s3 s4 s5 s6 s7
          go_loopw [111] (fun vi wz => ∃ i : Nat, i ≤ S.looks.length ∧ vi = .int .i64 (i : Int) ∧ Hid (WX w1 wz (((hdW S ++ S.rules.flatMap ruW) ++ S.perms.flatMap pmW) ++ (S.looks.take i).flatMap lkW)) ∧ Hid (Bk wz (w1.heap.size + 1) [numF w1.heap.size])) (fun vi _ => S.looks.length - (intOf vi).toNat)
          case atStart => exact ⟨0, Nat.zero_le _, rfl, Lib.hid (by rw [HZ4.out]; exact HXwq.out), HNwq⟩
          case round =>
            rename World => wz
            obtain ⟨i, hi, rfl, HXwz, HNwz⟩ := hrel
            clear HXwq HNwq
            by_cases hlt : i < S.looks.length
            · have hlt' : (i : Int) < ((S.looks.length : Nat) : Int) := by omega
              obtain ⟨b, off, ua, uc, va, vc, rfl, hc, hct, ht1, ht2⟩ := HLK.out i hlt
              obtain ⟨c0, c1, c2, c3⟩ := hc wz HXwz.out.1
              have HS := Lib.hid (HS4.out i hlt)
              have hl1 := HL4.out i hi
              obtain ⟨q1, q2, q3, q4⟩ := lkB_parts (HLKB.out _ (mem_getD zLk S.looks i hlt))
              obtain ⟨p, hp⟩ : ∃ p, p = S.looks.getD i zLk := ⟨_, rfl⟩
              obtain ⟨L1, hL1⟩ : ∃ L1, L1 = ((hdW S ++ S.rules.flatMap ruW) ++ S.perms.flatMap pmW) ++ (S.looks.take i).flatMap lkW := ⟨_, rfl⟩
              rw [← hp] at c0 c1 c2 c3 ht1 ht2 HS q1 q2 q3 q4 hct
              rw [← hL1] at HS hl1 HXwz
              clear hp hL1 hc
              obtain ⟨tu, ta, ct⟩ := p
              obtain ⟨kk, ki⟩ := ct
              simp only at c0 c1 c2 c3 ht1 ht2 q1 q2 q3 q4 hct
              have hl1' : L1.length ≤ 80000 := by omega
              obtain ⟨t1, t2, t3⟩ := tuB_parts q2
              obtain ⟨t4, t5, t6⟩ := tuB_parts q3
              have HP1 := Lib.hid (has_pos t3 ht1.1)
              have HP2 := Lib.hid (has_pos t6 ht2.1)
              have HP3 : Hid (posV (kk, ki)) := Lib.hid (has_pos (t := [(kk, ki)]) (ks := [1]) (S := S) (by simpa using q4) (by simpa using hct) _ (by simp))
              have HT1a := Lib.hid ht1
              have HT2a := Lib.hid ht2
              have HCT := Lib.hid hct
              have HSR : Hid ((L1 ++ [tu.length]) ++ tsW [tu, ta, [(kk, ki)]] = ((hdW S ++ S.rules.flatMap ruW) ++ S.perms.flatMap pmW) ++ (S.looks.take (i + 1)).flatMap lkW) := Lib.hid (by rw [← HS.out]; unfold lkW tsW; simp [List.append_assoc, vsW])
              have HBT : Hid ((tsW [tu, ta, [(kk, ki)]]).length ≤ 18) := Lib.hid (by unfold tsW; simp only [List.flatMap_cons, List.flatMap_nil, List.length_append, vsW_len, List.length_cons, List.length_nil]; omega)
              clear q2 q3 q4 t3 t6 ht1 ht2 hct HS hl1
              obtain ⟨tn, htn⟩ : ∃ tn, tn = tu.length := ⟨_, rfl⟩
              obtain ⟨sn, hsn⟩ : ∃ sn, sn = ta.length := ⟨_, rfl⟩
              rw [← htn] at c0 HSR t2
              rw [← hsn] at c1
              have HTN := Lib.hid htn; have HSN := Lib.hid hsn
              clear htn hsn q1 t1 t4 t5
              go_upto_region 28 with fail
              obtain ⟨u, hu⟩ : ∃ u, u = wz.alloc (.cells #[.slice ua tn uc, .slice va sn vc, .int .u8 kk, .int .i64 ki] 63) := ⟨_, rfl⟩
              obtain ⟨X, hX⟩ : ∃ X, X = wz.heap.size := ⟨_, rfl⟩
              rw [← hu, ← hX]
              have HBX : Hid (Bk u X [.slice ua tn uc, .slice va sn vc, .int .u8 kk, .int .i64 ki]) := by rw [hu, hX]; exact Lib.hid (Bk.new wz #[.slice ua tn uc, .slice va sn vc, .int .u8 kk, .int .i64 ki] _ (by decide))
              have HXu : Hid (WX w1 u (L1)) := by rw [hu]; exact Lib.hid (HXwz.out.alloc _)
              have HNu : Hid (Bk u (w1.heap.size + 1) [numF w1.heap.size]) := by rw [hu]; exact Lib.hid (HNwz.out.on ((On.refl HXwz.out.1.tab).alloc _))
              have hXO : X ≠ w1.heap.size := by
                obtain ⟨_, v, h, _⟩ := HXwz.out
                have := h.1; omega
              clear hu hX
              have x0 := HBX.out.1.2.1 0 _ rfl
              have n0 := HNu.out.1.2.1 0 _ rfl
              have HC28 : Hid (Calls Tryd.prog 63 #[.slice (some ⟨u.heap.size, 0, none⟩) 1 1, .pointer (some ⟨w1.heap.size, 0, none⟩)] (u.alloc (.cells #[.int .i64 ((tn : Nat) : Int)] 3)) fun e w' => e = .returned (.tuple #[]) ∧ WX w1 w' ((L1) ++ [tn]) ∧ KpW w1.heap.size (u.alloc (.cells #[.int .i64 ((tn : Nat) : Int)] 3)) w') := Lib.hid (numbers_any w1 u.heap.size [tn] (L1) _ (HXu.out.alloc _) (Bk.new u #[.int .i64 ((tn : Nat) : Int)] _ (by decide)) (by obtain ⟨_, v, h, _⟩ := HXu.out; have := h.1; omega) (by intro x hx; simp only [List.mem_cons, List.not_mem_nil, or_false] at hx; omega) (by simp only [List.length_cons, List.length_nil]; omega))
              clear c0 c1 c2 c3
              go_upto_region 29 with (go_at_call 63; (with_reducible refine HC28.out.mono ?_); rintro e w4 ⟨rfl, hX4, hK4⟩; refine Hid.out ?_)
              refine Lib.hid ?_
              have hK4 : KpW w1.heap.size u w4 := ((KpW.refl w1.heap.size u).alloc _).trans hK4
              have HXw4 := Lib.hid hX4
              have HNw4 : Hid (Bk w4 (w1.heap.size + 1) [numF w1.heap.size]) := HNu.out.kp hK4 (by omega)
              have HBXw4 := Lib.hid (HBX.out.kp hK4 hXO)
              clear hX4 hK4
              clear x0 n0 HC28 HBX HXu HNu
              have x0 := HBXw4.out.1.2.1 0 _ rfl
              have x1 := HBXw4.out.1.2.1 1 _ rfl
              have x2 := HBXw4.out.1.2.1 2 _ rfl
              have x3 := HBXw4.out.1.2.1 3 _ rfl
              have HC29 : Hid (Calls Tryd.prog 64 #[.slice (some ⟨w4.heap.size + 1, 0, none⟩) 3 3, .pointer (some ⟨w1.heap.size + 1, 0, none⟩)] ((w4.alloc (.cells #[.int .u8 kk, .int .i64 ki] 56)).alloc (.cells #[.slice ua tn uc, .slice va sn vc, .slice (some ⟨w4.heap.size, 0, none⟩) 1 1] 57)) fun e w' => e = .returned (.tuple #[]) ∧ WX w1 w' ((L1 ++ [tn]) ++ tsW [tu, ta, [(kk, ki)]]) ∧ KpW w1.heap.size ((w4.alloc (.cells #[.int .u8 kk, .int .i64 ki] 56)).alloc (.cells #[.slice ua tn uc, .slice va sn vc, .slice (some ⟨w4.heap.size, 0, none⟩) 1 1] 57)) w') := by
                have hO4 : w1.heap.size < w4.heap.size := by obtain ⟨_, v, h, _⟩ := HXw4.out; exact h.1
                have hA1 := (On.refl HXw4.out.1.tab).alloc (.cells #[.int .u8 kk, .int .i64 ki] 56)
                have hA2 := (On.refl hA1.tab).alloc (.cells #[.slice ua tn uc, .slice va sn vc, .slice (some ⟨w4.heap.size, 0, none⟩) 1 1] 57)
                have hZ1 := (Bk.new w4 #[.int .u8 kk, .int .i64 ki] 56 (by decide)).on hA2
                have hZ2 := Bk.new (w4.alloc (.cells #[.int .u8 kk, .int .i64 ki] 56)) #[.slice ua tn uc, .slice va sn vc, .slice (some ⟨w4.heap.size, 0, none⟩) 1 1] 57 (by decide)
                rw [World.size_alloc] at hZ2
                exact Lib.hid (variables_any w1 [tu, ta, [(kk, ki)]] (some ⟨w4.heap.size + 1, 0, none⟩) 3 (L1 ++ [tn]) _ ((HXw4.out.alloc _).alloc _) (HNw4.out.on (hA1.trans hA2))
                  (stt_three (ua := ua) (ub := va) (uc := some ⟨w4.heap.size, 0, none⟩) (ka := uc) (kb := vc) (kc := 1) (by rw [← HTN.out, ← HSN.out]; exact hZ2) (by omega) (HT1a.out.stv _) (HT2a.out.stv _) (stv_one hZ1 (by omega) HCT.out))
                  (fun t ht => by
                    simp only [List.mem_cons, List.not_mem_nil, or_false] at ht
                    rcases ht with rfl | rfl | rfl
                    · exact HP1.out
                    · exact HP2.out
                    · intro v hv; rw [List.mem_singleton] at hv; subst hv; exact HP3.out) (by simp) (by have := HBT.out; rw [List.length_append]; simp only [List.length_cons, List.length_nil]; omega))
              go_wp2_with (go_at_call 64; (with_reducible refine HC29.out.mono ?_); rintro e w6 ⟨rfl, hX6, hK6⟩; refine Hid.out ?_)
              refine Lib.hid ?_
              have hK6 : KpW w1.heap.size w4 w6 := (((KpW.refl w1.heap.size w4).alloc _).alloc _).trans hK6
              have HXw6 := Lib.hid hX6
              have HNw6 : Hid (Bk w6 (w1.heap.size + 1) [numF w1.heap.size]) := HNw4.out.kp hK6 (by omega)
              clear hX6 hK6 HC29 HXw4 HNw4 HBXw4 x0 x1 x2 x3
              rw [HSR.out] at HXw6
              go_wp2
              go_roundw
              case rel => exact ⟨i + 1, by omega, by simp, HXw6, HNw6⟩
              case measure => simp [intOf]; omega
            · obtain rfl : S.looks.length = i := by omega
              rw [HA4.out] at HXwz
              obtain ⟨hOn, v, hV, hown⟩ := HXwz.out
              have y0 := hV.2.1 0 _ rfl
              have HNR := Lib.hid (own_nr hown HUU.out (by have := HL4.out S.looks.length (Nat.le_refl _); rw [HA4.out] at this; omega))
              have HOE := Lib.hid (HO0.out.trans (HO1.out.trans hOn))
              clear hV hown hOn
              go_wp2
              go_ret
              exact ⟨⟨_, rfl, HNR.out⟩, HOE.out⟩
theorem words13_any (S : Sy) (a1 a2 a3 a4 : Option Addr) (k1 k2 k3 k4 : Nat) (w : World) (hT : Tab w) (hR : SyR w ⟨a1, a2, a3, a4, k1, k2, k3, k4⟩ S) :
    Calls Tryd.prog 19 #[syA S ⟨a1, a2, a3, a4, k1, k2, k3, k4⟩] w fun e w' => (∃ v, e = .returned v ∧ NR w' v (wordsS S)) ∧ On w w' := by
  unfold wordsS
  by_cases hv : valSy S = true
  · rw [if_pos hv]; exact words13_yes S a1 a2 a3 a4 k1 k2 k3 k4 w hT hR hv
  · rw [if_neg hv]
    exact (words13_no S _ w hT hR (by simpa using hv)).mono fun e w' ⟨he, ho⟩ => ⟨⟨_, he, NR.nil w'⟩, ho⟩
end Go.Proofs.YtbgljelpldnldaaDoor

/- The document's vars: what the call returns. -/
namespace Go.Proofs.YtbgljelpldnldaaDoor
open Go.RowKit Go.Lib
set_option linter.unusedVariables false

theorem step_appendW {P : Program} {w w' : World} {ops : Array Oper} {o : Oper} {a : Act} {K : Act → World → Prop} {Q : Exit → Act → World → Prop} {E : Prop} (hgd : o.guard = none) (s x : Operand) (t u : TypeId)
    (ho : o.op = .call { callee := .builtin .append, args := #[s, x], argTypes := #[t, u] }) (vs vx v' : Value) (hs : a.eval s = vs) (hx : a.eval x = vx) (hrun : ∀ ty, (Builtin.append_ #[t, u] ty #[vs, vx]).run P w = .ok v' w')
    (h : K (a.put o.dst v') w') : if Region.wanted o (yielded ops a.tmps) = true then Oper.wp P o a w K Q else E := by
  have hw : Region.wanted o (yielded ops a.tmps) = true := by unfold Region.wanted; rw [hgd]
  rw [if_pos hw]
  unfold Oper.wp execOp
  simp only [ho, resolve, invoke, builtin, Sem.run_bind, Sem.run_pure, Result.andThen_ok, List.map_toArray, List.map_cons, List.map_nil, hs, hx, hrun]
  exact h
/-- The words so far, in a slice of the call's own. -/
def RX (WB w : World) (v : Value) (l : List Nat) : Prop := On WB w ∧ w.ownsRow WB.heap.size 53 1 v l.length (u64s l)
/-- What an append leaves as it is. -/
def KpN (w w' : World) : Prop := w.heap.size ≤ w'.heap.size ∧ ∀ (B : Nat) cur t fz, w.heap[B]? = some (.cells cur t fz) → t ≠ 53 → w'.heap[B]? = some (.cells cur t fz)
theorem KpN.refl (w : World) : KpN w w := ⟨Nat.le_refl _, fun _ _ _ _ h _ => h⟩
theorem KpN.trans {a b c : World} (h : KpN a b) (k : KpN b c) : KpN a c := ⟨Nat.le_trans h.1 k.1, fun B cur t fz hb ht => k.2 B cur t fz (h.2 B cur t fz hb ht) ht⟩
theorem heap_lt {w : World} {B : Nat} {o : Obj} (h : w.heap[B]? = some o) : B < w.heap.size := by
  rcases Nat.lt_or_ge B w.heap.size with h' | h'
  · exact h'
  · rw [Array.getElem?_eq_none h'] at h; cases h
theorem KpN.of_on {w w' : World} (h : On w w') : KpN w w' := ⟨h.size, fun B cur t fz hb _ => (h.2.block B (heap_lt hb)).trans hb⟩
theorem Bk.kpn {w w' : World} {B : Nat} {l : List Value} (h : Bk w B l) (k : KpN w w') : Bk w' B l := by
  obtain ⟨h1, cur, fz, t, h2, h3⟩ := h
  have h4 := k.2 B cur t fz h2 h3
  exact ⟨h1.kept k.1 (h4.trans h2.symm), cur, fz, t, h4, h3⟩
theorem RX.on {WB w w' : World} {v : Value} {l : List Nat} (h : RX WB w v l) (k : On w w') : RX WB w' v l :=
  ⟨h.1.trans k, h.2.kept (row := none) ⟨k.2.os, k.2.tape, k.2.output, k.size, fun b hb _ => k.2.block b hb⟩ (by rcases hv : v.ownBlock with _ | _ <;> simp)⟩
theorem RX.shape {WB w : World} {v : Value} {l : List Nat} (h : RX WB w v l) : ∃ a c, v = .slice a l.length c := by
  rcases h.2.2 with ⟨rfl, h0⟩ | ⟨g, cap, cur, rfl, _⟩
  · rw [h0]; exact ⟨_, _, rfl⟩
  · exact ⟨_, _, rfl⟩
theorem RX.step {WB w : World} {v : Value} {l : List Nat} (h : RX WB w v l) (xs : List Nat) (arr : Array Value) (ha : arr.toList = u64s xs) (hl : l.length + xs.length ≤ 1000000) :
    ∃ v' w', (∀ ty, (Builtin.append_ #[32, 32] ty #[v, .slice (some ⟨w.heap.size, 0, none⟩) xs.length xs.length]).run Tryd.prog (w.alloc (.cells arr 53)) = .ok v' w') ∧ RX WB w' v' (l ++ xs) ∧ KpN w w' := by
  obtain ⟨hO, hown⟩ := h
  obtain ⟨v', w', hrun, hown', hg⟩ := app_nums hown hO.size xs arr ha hl
  have hA := (On.refl hO.tab).alloc (.cells arr 53)
  refine ⟨v', w', hrun, ⟨(hO.trans hA).gbv hg (fun r hr => ownsRow_below hown r hr), hown'⟩, ?_, fun B cur t fz hb ht => ?_⟩
  · have := hg.size
    rw [World.size_alloc] at this
    omega
  · have hlt := heap_lt hb
    have h1 : (w.alloc (.cells arr 53)).heap[B]? = some (.cells cur t fz) := (hA.2.block B hlt).trans hb
    have hrow : some B ≠ v.ownBlock := fun e => by
      rcases (hown.alloc (.cells arr 53)).2 with ⟨e0, _⟩ | ⟨g, cap, cur', e0, _, hgc, _⟩
      · rw [e0] at e; cases e
      · rw [e0] at e
        have e2 : B = g := Option.some.inj e
        subst e2
        rw [hgc] at h1
        simp only [Option.some.injEq, Obj.cells.injEq] at h1
        exact ht h1.2.1.symm
    exact (hg.block B (by rw [World.size_alloc]; omega) hrow).trans h1
set_option maxHeartbeats 2000000 in
set_option maxRecDepth 100000 in
theorem rvars_any (WB : World) (L : List Nat) (v : Value) (l : List Vr) (ua : Option Addr) (uc : Nat) (w : World) (hX : RX WB w v L) (hV : ∀ wq, On WB wq → KpN w wq → VRw wq (.slice ua l.length uc) l) (hp : ∀ v ∈ l, posV v) (hl : L.length + l.length * 2 ≤ 1000000) :
    Calls Tryd.prog 65 #[v, .slice ua l.length uc] w fun e w' => (∃ v', e = .returned v' ∧ RX WB w' v' (L ++ vsW l)) ∧ KpN w w' := by
  have HX := Lib.hid hX
  have HV := Lib.hid hV
  have HPi : Hid (∀ j, j < l.length → posV (l.getD j zV)) := fun j hj => hp _ (mem_getD zV l j hj)
  have HV0 : Hid (L ++ vsW (l.take 0) = L) := Lib.hid (by simp [vsW])
  have HVL : Hid (L ++ vsW (l.take l.length) = L ++ vsW l) := by rw [List.take_length]; exact Lib.hid rfl
  have HVS : Hid (∀ j, j < l.length → (L ++ vsW (l.take j)) ++ vN (l.getD j zV) = L ++ vsW (l.take (j + 1))) := fun j hj => by rw [vsW_snoc l j hj, List.append_assoc]
  have HVN : Hid (∀ j, j < l.length → (L ++ vsW (l.take j)).length + 2 ≤ 1000000) := fun j hj => by
    rw [List.length_append, vsW_len, List.length_take]; omega
  have hvl : l.length ≤ 9223372036854775807 := (hV w hX.1 (KpN.refl w)).2.1
  clear hX hV hp hl
  obtain ⟨n, hn⟩ : ∃ n, n = l.length := ⟨_, rfl⟩
  rw [← hn] at HV HPi HVL HVS HVN hvl ⊢
  have HNL := Lib.hid hn
  clear hn
  go_enter Tryd.func65, Tryd.ntmps65
  go_wp2_with fail
  go_loopw [0, 5] (fun vo vj wq => ∃ j : Nat, j ≤ n ∧ vj = .int .i64 (j : Int) ∧ Hid (RX WB wq vo (L ++ vsW (l.take j))) ∧ Hid (KpN w wq)) (fun _ vj _ => n - (intOf vj).toNat)
  case atStart => exact ⟨0, Nat.zero_le _, rfl, Lib.hid (by rw [HV0.out]; exact HX.out), Lib.hid (KpN.refl w)⟩
  case round =>
    rename World => wq
    obtain ⟨vo, hvo⟩ : ∃ vo, vo = u0 := ⟨_, rfl⟩
    subst hvo
    obtain ⟨j, hj, rfl, HW1, HK1⟩ := hrel
    by_cases hjt : j < n
    · have hjt' : (j : Int) < (n : Int) := by omega
      have hvr := HV.out wq HW1.out.1 HK1.out
      obtain ⟨bv, ov, rfl, c1, c2⟩ := hvr.cells j (by rw [← HNL.out]; exact hjt)
      have hok := hvr.okD j
      obtain ⟨hp1, hp2⟩ := HPi.out j hjt
      have HSj := Lib.hid (HVS.out j hjt)
      have hNj := HVN.out j hjt
      have HCC : Hid (∀ wx, On WB wx → KpN w wx → wx.cell? ⟨bv, ov + j * 2, none⟩ = some (.int .u8 (l.getD j zV).1) ∧ wx.cell? ⟨bv, ov + j * 2 + 1, none⟩ = some (.int .i64 (l.getD j zV).2)) := Lib.hid fun wx ho hk => by
        obtain ⟨b2, o2, e2, d1, d2⟩ := (HV.out wx ho hk).cells j (by rw [← HNL.out]; exact hjt)
        simp only [Option.some.injEq, Addr.mk.injEq, and_true] at e2
        obtain ⟨rfl, rfl⟩ := e2
        exact ⟨d1, d2⟩
      clear hvr c1 c2
      obtain ⟨x, hx⟩ : ∃ x, x = l.getD j zV := ⟨_, rfl⟩
      rw [← hx] at HCC hok hp1 hp2 HSj
      clear hx
      obtain ⟨xk, xi⟩ := x
      unfold okV at hok
      simp only at HCC hok hp1 hp2 HSj
      obtain ⟨kk, rfl⟩ : ∃ kk : Nat, xk = (kk : Int) := ⟨xk.toNat, by omega⟩
      obtain ⟨ki, rfl⟩ : ∃ ki : Nat, xi = (ki : Int) := ⟨xi.toNat, by omega⟩
      have hkk : kk ≤ 255 := by omega
      have hki : ki ≤ 9223372036854775807 := by omega
      have HSk : Hid ((L ++ vsW (l.take j)) ++ [kk, ki] = L ++ vsW (l.take (j + 1))) := HSj
      clear hok hp1 hp2 HSj
      go_upto_region 4 with fail
      have HWa : Hid (IntKind.u64.wrap (kk : Int) = (kk : Int)) := Lib.hid (IntWalk.u64_in _ (by omega))
      have HWb : Hid (IntKind.u64.wrap (ki : Int) = (ki : Int)) := Lib.hid (IntWalk.u64_in _ (by omega))
      obtain ⟨V0, hV0⟩ : ∃ V0, V0 = wq.drew := ⟨_, rfl⟩
      have hD : On wq V0 := by rw [hV0]; exact (On.refl HW1.out.1.tab).drew
      have HXV : Hid (RX WB V0 vo (L ++ vsW (l.take j))) := Lib.hid (HW1.out.on hD)
      have HKV : Hid (KpN w V0) := Lib.hid (HK1.out.trans (KpN.of_on hD))
      obtain ⟨v', w', hrun, hX2, hK2⟩ := HXV.out.step [kk, ki] #[.int .u64 (kk : Int), .int .u64 (ki : Int)] rfl (by simpa using hNj)
      rw [HSk.out] at hX2
      have HRUN := Lib.hid hrun
      have HK3 := Lib.hid (HKV.out.trans hK2)
      have HX3 := Lib.hid hX2
      have hSd := HCC.out V0 HXV.out.1 HKV.out
      have hAA := (On.refl HXV.out.1.tab).alloc (.cells #[.int .u64 (kk : Int), .int .u64 (ki : Int)] 53)
      have hSa := HCC.out _ (HXV.out.1.trans hAA) (HKV.out.trans (KpN.of_on hAA))
      have hSb := HCC.out w' HX3.out.1 HK3.out
      clear hrun hX2 hK2 hD hAA HCC HW1 HK1 HXV HKV
      refine region_head_tail (S := fun wx => wx.cell? ⟨bv, ov + j * 2, none⟩ = some (.int .u8 ((kk : Nat) : Int)) ∧ wx.cell? ⟨bv, ov + j * 2 + 1, none⟩ = some (.int .i64 ((ki : Nat) : Int))) 15 (by kernel_rfl) (by kernel_rfl) ?_
      rw [← hV0]
      clear hV0
      refine HeadG.take (i := 0) (v := ?hv1q0) rfl (by kernel_rfl) (by kernel_rfl) (by kernel_rfl) (by kernel_rfl) (by kernel_rfl) (by kernel_rfl) (by kernel_rfl) (fun _ _ _ h => h) (Or.inl ⟨by rfl, ?hy1q0⟩) hSd ?hr1q0
      case hy1q0 => (intro w' hSw; obtain ⟨z0, z1⟩ := hSw; go_simp; try with_reducible rfl)
      try simp only [Act.put, List.setIfInBounds_toArray, List.set_cons_zero, List.set_cons_succ, List.getElem_toArray, List.getElem_cons_zero, List.getElem_cons_succ]
      refine HeadG.take (i := 1) (v := ?hv2q1) rfl (by kernel_rfl) (by kernel_rfl) (by kernel_rfl) (by kernel_rfl) (by kernel_rfl) (by kernel_rfl) (by kernel_rfl) (fun _ _ _ h => h) (Or.inl ⟨by rfl, ?hy2q1⟩) hSd ?hr2q1
      case hy2q1 => (intro w' hSw; obtain ⟨z0, z1⟩ := hSw; go_simp; try with_reducible rfl)
      try simp only [Act.put, List.setIfInBounds_toArray, List.set_cons_zero, List.set_cons_succ, List.getElem_toArray, List.getElem_cons_zero, List.getElem_cons_succ]
      refine HeadG.take (i := 2) (v := ?hv3q2) rfl (by kernel_rfl) (by kernel_rfl) (by kernel_rfl) (by kernel_rfl) (by kernel_rfl) (by kernel_rfl) (by kernel_rfl) (fun _ _ _ h => h) (Or.inl ⟨by rfl, ?hy3q2⟩) hSd ?hr3q2
      case hy3q2 => (intro w' hSw; obtain ⟨z0, z1⟩ := hSw; go_simp; try with_reducible rfl)
      try simp only [Act.put, List.setIfInBounds_toArray, List.set_cons_zero, List.set_cons_succ, List.getElem_toArray, List.getElem_cons_zero, List.getElem_cons_succ]
      refine HeadG.take (i := 3) (v := ?hv4q3) rfl (by kernel_rfl) (by kernel_rfl) (by kernel_rfl) (by kernel_rfl) (by kernel_rfl) (by kernel_rfl) (by kernel_rfl) (fun _ _ _ h => h) (Or.inl ⟨by rfl, ?hy4q3⟩) hSd ?hr4q3
      case hy4q3 => (intro w' hSw; obtain ⟨z0, z1⟩ := hSw; go_simp; try with_reducible rfl)
      try simp only [Act.put, List.setIfInBounds_toArray, List.set_cons_zero, List.set_cons_succ, List.getElem_toArray, List.getElem_cons_zero, List.getElem_cons_succ]
      refine HeadG.take (i := 4) (v := ?hv5q4) rfl (by kernel_rfl) (by kernel_rfl) (by kernel_rfl) (by kernel_rfl) (by kernel_rfl) (by kernel_rfl) (by kernel_rfl) (fun _ _ _ h => h) (Or.inl ⟨by rfl, ?hy5q4⟩) hSd ?hr5q4
      case hy5q4 => (intro w' hSw; obtain ⟨z0, z1⟩ := hSw; go_simp; try with_reducible rfl)
      try simp only [Act.put, List.setIfInBounds_toArray, List.set_cons_zero, List.set_cons_succ, List.getElem_toArray, List.getElem_cons_zero, List.getElem_cons_succ]
      refine HeadG.take (i := 5) (v := ?hv6q5) rfl (by kernel_rfl) (by kernel_rfl) (by kernel_rfl) (by kernel_rfl) (by kernel_rfl) (by kernel_rfl) (by kernel_rfl) (fun _ _ _ h => h) (Or.inl ⟨by rfl, ?hy6q5⟩) hSd ?hr6q5
      case hy6q5 => (intro w' hSw; obtain ⟨z0, z1⟩ := hSw; go_simp; try with_reducible rfl)
      try simp only [Act.put, List.setIfInBounds_toArray, List.set_cons_zero, List.set_cons_succ, List.getElem_toArray, List.getElem_cons_zero, List.getElem_cons_succ]
      refine HeadG.take (i := 6) (v := .int .u64 ((kk : Nat) : Int)) rfl (by kernel_rfl) (by kernel_rfl) (by kernel_rfl) (by kernel_rfl) (by kernel_rfl) (by kernel_rfl) (by kernel_rfl) (fun _ _ _ h => h) (Or.inl ⟨by rfl, ?hy7q6⟩) hSd ?hr7q6
      case hy7q6 => (intro w' hSw; obtain ⟨z0, z1⟩ := hSw; have h1 := HWa.out; have h2 := HWb.out; go_simp; (try (with_reducible rfl)); (try simp [h1, h2]))
      try simp only [Act.put, List.setIfInBounds_toArray, List.set_cons_zero, List.set_cons_succ, List.getElem_toArray, List.getElem_cons_zero, List.getElem_cons_succ]
      refine HeadG.take (i := 7) (v := ?hv8q7) rfl (by kernel_rfl) (by kernel_rfl) (by kernel_rfl) (by kernel_rfl) (by kernel_rfl) (by kernel_rfl) (by kernel_rfl) (fun _ _ _ h => h) (Or.inl ⟨by rfl, ?hy8q7⟩) hSd ?hr8q7
      case hy8q7 => (intro w' hSw; obtain ⟨z0, z1⟩ := hSw; go_simp; try with_reducible rfl)
      try simp only [Act.put, List.setIfInBounds_toArray, List.set_cons_zero, List.set_cons_succ, List.getElem_toArray, List.getElem_cons_zero, List.getElem_cons_succ]
      refine HeadG.take (i := 8) (v := ?hv9q8) rfl (by kernel_rfl) (by kernel_rfl) (by kernel_rfl) (by kernel_rfl) (by kernel_rfl) (by kernel_rfl) (by kernel_rfl) (fun _ _ _ h => h) (Or.inl ⟨by rfl, ?hy9q8⟩) hSd ?hr9q8
      case hy9q8 => (intro w' hSw; obtain ⟨z0, z1⟩ := hSw; go_simp; try with_reducible rfl)
      try simp only [Act.put, List.setIfInBounds_toArray, List.set_cons_zero, List.set_cons_succ, List.getElem_toArray, List.getElem_cons_zero, List.getElem_cons_succ]
      refine HeadG.take (i := 9) (v := ?hv10q9) rfl (by kernel_rfl) (by kernel_rfl) (by kernel_rfl) (by kernel_rfl) (by kernel_rfl) (by kernel_rfl) (by kernel_rfl) (fun _ _ _ h => h) (Or.inl ⟨by rfl, ?hy10q9⟩) hSd ?hr10q9
      case hy10q9 => (intro w' hSw; obtain ⟨z0, z1⟩ := hSw; go_simp; try with_reducible rfl)
      try simp only [Act.put, List.setIfInBounds_toArray, List.set_cons_zero, List.set_cons_succ, List.getElem_toArray, List.getElem_cons_zero, List.getElem_cons_succ]
      refine HeadG.take (i := 10) (v := ?hv11q10) rfl (by kernel_rfl) (by kernel_rfl) (by kernel_rfl) (by kernel_rfl) (by kernel_rfl) (by kernel_rfl) (by kernel_rfl) (fun _ _ _ h => h) (Or.inl ⟨by rfl, ?hy11q10⟩) hSd ?hr11q10
      case hy11q10 => (intro w' hSw; obtain ⟨z0, z1⟩ := hSw; go_simp; try with_reducible rfl)
      try simp only [Act.put, List.setIfInBounds_toArray, List.set_cons_zero, List.set_cons_succ, List.getElem_toArray, List.getElem_cons_zero, List.getElem_cons_succ]
      refine HeadG.take (i := 11) (v := ?hv12q11) rfl (by kernel_rfl) (by kernel_rfl) (by kernel_rfl) (by kernel_rfl) (by kernel_rfl) (by kernel_rfl) (by kernel_rfl) (fun _ _ _ h => h) (Or.inl ⟨by rfl, ?hy12q11⟩) hSd ?hr12q11
      case hy12q11 => (intro w' hSw; obtain ⟨z0, z1⟩ := hSw; go_simp; try with_reducible rfl)
      try simp only [Act.put, List.setIfInBounds_toArray, List.set_cons_zero, List.set_cons_succ, List.getElem_toArray, List.getElem_cons_zero, List.getElem_cons_succ]
      refine HeadG.take (i := 12) (v := .int .u64 ((ki : Nat) : Int)) rfl (by kernel_rfl) (by kernel_rfl) (by kernel_rfl) (by kernel_rfl) (by kernel_rfl) (by kernel_rfl) (by kernel_rfl) (fun _ _ _ h => h) (Or.inl ⟨by rfl, ?hy13q12⟩) hSd ?hr13q12
      case hy13q12 => (intro w' hSw; obtain ⟨z0, z1⟩ := hSw; have h1 := HWa.out; have h2 := HWb.out; go_simp; (try (with_reducible rfl)); (try simp [h1, h2]))
      try simp only [Act.put, List.setIfInBounds_toArray, List.set_cons_zero, List.set_cons_succ, List.getElem_toArray, List.getElem_cons_zero, List.getElem_cons_succ]
      refine HeadG.one (i := 13) rfl (by kernel_rfl) (by kernel_rfl) (fun K9 hK9 => ?_)
      go_simp
      refine hK9.out _ _ hSa ?_
      clear hK9 K9
      try simp only [Act.put, List.setIfInBounds_toArray, List.set_cons_zero, List.set_cons_succ, List.getElem_toArray, List.getElem_cons_zero, List.getElem_cons_succ]
      refine HeadG.one (i := 14) rfl (by kernel_rfl) (by kernel_rfl) (fun K9 hK9 => ?_)
      refine step_appendW rfl (.tmp 12) (.tmp 25) _ _ rfl _ _ _ rfl rfl HRUN.out ?_
      refine hK9.out _ _ hSb ?_
      clear hK9 K9
      try simp only [Act.put, List.setIfInBounds_toArray, List.set_cons_zero, List.set_cons_succ, List.getElem_toArray, List.getElem_cons_zero, List.getElem_cons_succ]
      refine HeadG.last (i := 15) rfl (by kernel_rfl) (by kernel_rfl) (by kernel_rfl) (fun K9 hK9 => ?_)
      go_simp
      refine hK9.out _ _ ?_
      clear hK9 K9
      try simp only [Act.put, List.setIfInBounds_toArray, List.set_cons_zero, List.set_cons_succ, List.getElem_toArray, List.getElem_cons_zero, List.getElem_cons_succ]
      clear hSd hSa hSb
      go_wp2
      go_roundw
      case rel => exact ⟨j + 1, by omega, by simp, HX3, HK3⟩
      case measure => simp [intOf]; omega
    · obtain rfl : n = j := by omega
      have HF : Hid (RX WB wq vo (L ++ vsW l)) := by rw [← HVL.out]; exact HW1
      go_wp2
      go_ret
      exact ⟨⟨_, rfl, HF.out⟩, HK1.out⟩
end Go.Proofs.YtbgljelpldnldaaDoor
