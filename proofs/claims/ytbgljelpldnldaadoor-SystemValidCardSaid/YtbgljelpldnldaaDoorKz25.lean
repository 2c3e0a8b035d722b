/- The document's Words: what the call returns. -/
import Derived.Test.YtbgljelpldnldaaDoorKz24
import Derived.Test.YtbgljelpldnldaaDoorKz23
set_option linter.unusedSimpArgs false
set_option linter.unusedVariables false
/- The document's Words: what the call returns. -/
namespace Go.Proofs.YtbgljelpldnldaaDoor
open Go.RowKit Go.Lib
set_option linter.unusedVariables false

set_option maxHeartbeats 2000000 in
set_option maxRecDepth 100000 in
theorem rwords13_no (S : Sy) (H : Sh) (w : World) (hT : Tab w) (hR : SyR w H S) (hv : valSy S = false) :
    Calls Tryd.prog 20 #[syA S H] w fun e w' => e = .returned (.slice none 0 0) ∧ On w w' := by
  obtain ⟨W0, hW0⟩ : ∃ W0, W0 = w.alloc (syO S H) := ⟨_, rfl⟩
  have hO0 : On w W0 := by rw [hW0]; exact (On.refl hT).alloc _
  obtain ⟨Q, hQ⟩ : ∃ Q, Q = w.heap.size := ⟨_, rfl⟩
  have HB0 : Hid (VB Q W0 (syL S H)) := by rw [hW0, hQ]; exact Lib.hid (vb_newS S _ w)
  have HSY : Hid (∀ wq, On W0 wq → _) := fun wq h => sy_cells (HB0.out.on h)
  have HVA := Lib.hid (rvalid13_any S H W0 hO0.tab (hR.on hO0))
  rw [hv] at HVA
  have HOK : Hid (On W0 W0) := Lib.hid (On.refl hO0.tab)
  have HW0 := Lib.hid hW0; have HQ := Lib.hid hQ; have HO0 := Lib.hid hO0
  clear hT hR hW0 hO0 hQ HB0 hv
  go_enter Tryd.func20, Tryd.ntmps20
  go_upto_region 1 with fail
  rw [← HW0.out, ← HQ.out]
  obtain ⟨s0, s1, s2, s3, s4, s5, s6, s7⟩ := HSY.out _ HOK.out
  go_wp2_with (go_at_call 15; (with_reducible refine HVA.out.mono ?_); rintro e w1 ⟨rfl, hO1⟩)
  go_ret
  exact ⟨rfl, HO0.out.trans hO1⟩
set_option maxHeartbeats 8000000 in
set_option maxRecDepth 100000 in
theorem rwords13_yes (S : Sy) (a1 a2 a3 a4 : Option Addr) (k1 k2 k3 k4 : Nat) (w : World) (hT : Tab w) (hR : SyR w ⟨a1, a2, a3, a4, k1, k2, k3, k4⟩ S) (hv : valSy S = true) :
    Calls Tryd.prog 20 #[syA S ⟨a1, a2, a3, a4, k1, k2, k3, k4⟩] w fun e w' => (∃ v, e = .returned v ∧ NR w' v (wordsV S)) ∧ On w w' := by
  obtain ⟨W0, hW0⟩ : ∃ W0, W0 = w.alloc (syO S ⟨a1, a2, a3, a4, k1, k2, k3, k4⟩) := ⟨_, rfl⟩
  have hO0 : On w W0 := by rw [hW0]; exact (On.refl hT).alloc _
  obtain ⟨Q, hQ⟩ : ∃ Q, Q = w.heap.size := ⟨_, rfl⟩
  have HB0 : Hid (VB Q W0 (syL S ⟨a1, a2, a3, a4, k1, k2, k3, k4⟩)) := by rw [hW0, hQ]; exact Lib.hid (vb_newS S _ w)
  have HSY0 : Hid (∀ wq, On W0 wq → _) := fun wq h => sy_cells (HB0.out.on h)
  have HVA := Lib.hid (rvalid13_any S ⟨a1, a2, a3, a4, k1, k2, k3, k4⟩ W0 hO0.tab (hR.on hO0))
  rw [hv] at HVA
  have HUU := Lib.hid (words_u64 hR hv)
  have HR := Lib.hid (hR.on hO0)
  have HV := Lib.hid hv
  have HOK : Hid (On W0 W0) := Lib.hid (On.refl hO0.tab)
  have HW0 := Lib.hid hW0; have HQ := Lib.hid hQ; have HO0 := Lib.hid hO0
  clear hT hR hW0 hO0 hQ HB0 hv
  go_enter Tryd.func20, Tryd.ntmps20
  go_upto_region 1 with fail
  rw [← HW0.out, ← HQ.out]
  obtain ⟨s0, s1, s2, s3, s4, s5, s6, s7⟩ := HSY0.out _ HOK.out
  go_upto_region 3 with (go_at_call 15; (with_reducible refine HVA.out.mono ?_); rintro e w1 ⟨rfl, hO1⟩; refine Hid.out ?_)
  refine Lib.hid ?_
  clear s0 s1 s2 s3 s4 s5 s6 s7
  have HO1 := Lib.hid hO1
  have HRB := Lib.hid (HR.out.on hO1)
  have HT1 := Lib.hid hO1.tab
  have HSY : Hid (∀ wq, On w1 wq → _) := fun wq h => HSY0.out wq (HO1.out.trans h)
  clear hO1 HSY0 HR
  obtain ⟨hsz, hru, hpm, hlk⟩ := valSy_parts HV.out
  obtain ⟨hvf, f1, f2, f3, f4, f5, f6, f7, f8, f9, fa, fb⟩ := szS_facts hsz
  obtain ⟨wl1, wl2, wl3⟩ := words_len HV.out
  have HL1 : Hid (∀ i, i ≤ S.rules.length → (hdW S ++ (S.rules.take i).flatMap ruW).length ≤ 8 + i * 1154) := Lib.hid fun i _ => by rw [List.length_append, hdW_len]; have := wl1 i; omega
  have HL3 : Hid (∀ i, i ≤ S.perms.length → ((hdW S ++ S.rules.flatMap ruW) ++ (S.perms.take i).flatMap pmW).length ≤ 8 + 64 * 1154 + i * 66) := Lib.hid fun i _ => by
    rw [List.length_append, List.length_append, hdW_len]
    have h1 := wl1 S.rules.length; rw [List.take_length] at h1
    have := wl2 i; omega
  have HL4 : Hid (∀ i, i ≤ S.looks.length → (((hdW S ++ S.rules.flatMap ruW) ++ S.perms.flatMap pmW) ++ (S.looks.take i).flatMap lkW).length ≤ 8 + 64 * 1154 + 4 * 66 + i * 19) := Lib.hid fun i _ => by
    rw [List.length_append, List.length_append, List.length_append, hdW_len]
    have h1 := wl1 S.rules.length; rw [List.take_length] at h1
    have h2 := wl2 S.perms.length; rw [List.take_length] at h2
    have := wl3 i; omega
  clear wl1 wl2 wl3
  have HRUB := Lib.hid hru; have HPMB := Lib.hid hpm; have HLKB := Lib.hid hlk
  have hvp : pOf S.f ≤ 998244353 := pOf_le S.f
  have hS0 : 0 ≤ S.f ∧ S.f ≤ 3 := by have h := hvf; unfold validB at h; simp at h; omega
  obtain ⟨hS0, hS3⟩ := hS0
  have hI : u64s (hdW S) = [.int .u64 S.f, .int .u64 S.rows, .int .u64 S.main, .int .u64 S.pub, .int .u64 ((S.fixed.length : Nat) : Int), .int .u64 ((S.rules.length : Nat) : Int), .int .u64 ((S.perms.length : Nat) : Int), .int .u64 ((S.looks.length : Nat) : Int)] := by
    simp only [u64s, hdW, List.map_cons, List.map_nil]
    rw [Int.toNat_of_nonneg hS0, Int.toNat_of_nonneg (by omega : 0 ≤ S.rows), Int.toNat_of_nonneg (by omega : 0 ≤ S.main), Int.toNat_of_nonneg f6]
  have HX0 : Hid (RX w1 (w1.alloc (.cells #[.int .u64 S.f, .int .u64 S.rows, .int .u64 S.main, .int .u64 S.pub, .int .u64 ((S.fixed.length : Nat) : Int), .int .u64 ((S.rules.length : Nat) : Int), .int .u64 ((S.perms.length : Nat) : Int), .int .u64 ((S.looks.length : Nat) : Int)] 53)) (.slice (some ⟨w1.heap.size, 0, none⟩) 8 8) (hdW S)) := by
    refine Lib.hid ⟨(On.refl HT1.out).alloc _, ?_⟩
    rw [hI]
    exact own_lit w1 53 1 [.int .u64 S.f, .int .u64 S.rows, .int .u64 S.main, .int .u64 S.pub, .int .u64 ((S.fixed.length : Nat) : Int), .int .u64 ((S.rules.length : Nat) : Int), .int .u64 ((S.perms.length : Nat) : Int), .int .u64 ((S.looks.length : Nat) : Int)] 8 rfl (by unfold maxLen; omega)
  obtain ⟨s0, s1, s2, s3, s4, s5, s6, s7⟩ := HSY.out w1 (On.refl HT1.out)
  clear hI hru hpm hlk hsz hvf
  have hn1 : S.rules.length ≤ 64 := f9
  have hn2 : S.perms.length ≤ 4 := fa
  have hn3 : S.looks.length ≤ 8 := fb
  go_upto_region 4 with fail
  obtain ⟨W2, hW2⟩ : ∃ W2, W2 = w1.alloc (.cells #[.int .u64 S.f, .int .u64 S.rows, .int .u64 S.main, .int .u64 S.pub, .int .u64 ((S.fixed.length : Nat) : Int), .int .u64 ((S.rules.length : Nat) : Int), .int .u64 ((S.perms.length : Nat) : Int), .int .u64 ((S.looks.length : Nat) : Int)] 53) := ⟨_, rfl⟩
  rw [← hW2] at HX0
  rw [← hW2]
  clear hW2 s0 s1 s2 s3 s4 s5 s6 s7 f1 f2 f3 f4 f5 f6 f7 f8 f9 fa fb hS0 hS3
  have HS1 : Hid (∀ i, i < S.rules.length → (hdW S ++ (S.rules.take i).flatMap ruW) ++ ruW (S.rules.getD i zRu) = hdW S ++ (S.rules.take (i + 1)).flatMap ruW) := Lib.hid fun i hi => by rw [flat_snoc ruW zRu S.rules i hi, List.append_assoc]
  have HA1 : Hid (hdW S ++ (S.rules.take S.rules.length).flatMap ruW = hdW S ++ S.rules.flatMap ruW) := by rw [List.take_length]; exact Lib.hid rfl
  have HZ1 : Hid (hdW S ++ (S.rules.take 0).flatMap ruW = hdW S) := Lib.hid (by simp)
  have HRU : Hid (∀ i, i < S.rules.length → ∃ b off ua uc, a2 = some ⟨b, off, none⟩ ∧ (0 ≤ (S.rules.getD i zRu).1 ∧ (S.rules.getD i zRu).1 ≤ 255) ∧ (∀ wq, On w1 wq → wq.cell? ⟨b, off + i * 2, none⟩ = some (.int .u8 (S.rules.getD i zRu).1) ∧ wq.cell? ⟨b, off + i * 2 + 1, none⟩ = some (.slice ua (S.rules.getD i zRu).2.length uc)) ∧ MRw w1 (.slice ua (S.rules.getD i zRu).2.length uc) (S.rules.getD i zRu).2) := fun i hi => by
    obtain ⟨b, off, e, ⟨d0, d0'⟩, u, d1, d2⟩ := HRB.out.2.2.1.cells i hi
    obtain ⟨ua, uc, rfl⟩ := d2.shape
    exact ⟨b, off, ua, uc, e, d0', fun wq h => ⟨cell_on h d0, cell_on h d1⟩, d2⟩
  go_wp2_with fail
  go_loopw [3, 4] (fun vo vi wr => ∃ i : Nat, i ≤ S.rules.length ∧ vi = .int .i64 (i : Int) ∧ Hid (RX w1 wr vo (hdW S ++ (S.rules.take i).flatMap ruW))) (fun _ vi _ => S.rules.length - (intOf vi).toNat)
  case atStart => exact ⟨0, Nat.zero_le _, rfl, Lib.hid (by rw [HZ1.out]; exact HX0.out)⟩
  case round =>
    rename World => wr
    obtain ⟨vo, hvo⟩ : ∃ vo, vo = u3 := ⟨_, rfl⟩
    subst hvo
    obtain ⟨i, hi, rfl, HXwr⟩ := hrel
    clear HX0
    obtain ⟨s0, s1, s2, s3, s4, s5, s6, s7⟩ := HSY.out wr HXwr.out.1
    by_cases hlt : i < S.rules.length
    · have hlt' : (i : Int) < ((S.rules.length : Nat) : Int) := by omega
      obtain ⟨b, off, ua, uc, rfl, ⟨ho1, ho2⟩, hc, hm⟩ := HRU.out i hlt
      obtain ⟨c0, c1⟩ := hc wr HXwr.out.1
      have HS := Lib.hid (HS1.out i hlt)
      have hl1 := HL1.out i hi
      obtain ⟨q1, ks, q2⟩ := ruB_parts (HRUB.out _ (mem_getD zRu S.rules i hlt))
      obtain ⟨r, hr⟩ : ∃ r, r = S.rules.getD i zRu := ⟨_, rfl⟩
      obtain ⟨L1, hL1⟩ : ∃ L1, L1 = hdW S ++ (S.rules.take i).flatMap ruW := ⟨_, rfl⟩
      rw [← hr] at c0 c1 ho1 ho2 hm HS q1 q2
      rw [← hL1] at HS hl1 HXwr
      clear hr hL1 hc
      obtain ⟨on, sum⟩ := r
      simp only at c0 c1 ho1 ho2 hm q1 q2
      obtain ⟨no, rfl⟩ : ∃ no : Nat, on = (no : Int) := ⟨on.toNat, by omega⟩
      have hl1' : L1.length ≤ 80000 := by omega
      have HM := Lib.hid (mono_at hm)
      have HQ2 := Lib.hid q2
      have HSR : Hid (((L1 ++ [no, sum.length]) ++ sum.flatMap moW) = hdW S ++ (S.rules.take (i + 1)).flatMap ruW) := Lib.hid (by rw [← HS.out]; unfold ruW; simp [List.append_assoc])
      have HML : Hid (∀ k, k ≤ sum.length → ((L1 ++ [no, sum.length]) ++ (sum.take k).flatMap moW).length ≤ 80002 + k * 18) := Lib.hid fun k _ => by
        have h := flat_len moW 18 sum (fun m hm => moW_len (q2 m hm)) k
        rw [List.length_append, List.length_append]; simp only [List.length_cons, List.length_nil]; omega
      have HMS : Hid (∀ k, k < sum.length → ((L1 ++ [no, sum.length]) ++ (sum.take k).flatMap moW) ++ moW (sum.getD k zM) = (L1 ++ [no, sum.length]) ++ (sum.take (k + 1)).flatMap moW) := Lib.hid fun k hk => by rw [flat_snoc moW zM sum k hk, List.append_assoc]
      have HMA : Hid ((L1 ++ [no, sum.length]) ++ (sum.take sum.length).flatMap moW = (L1 ++ [no, sum.length]) ++ sum.flatMap moW) := by rw [List.take_length]; exact Lib.hid rfl
      have HMZ : Hid ((L1 ++ [no, sum.length]) ++ (sum.take 0).flatMap moW = L1 ++ [no, sum.length]) := Lib.hid (by simp)
      clear q2 hm HS hl1
      obtain ⟨sn, hsn⟩ : ∃ sn, sn = sum.length := ⟨_, rfl⟩
      rw [← hsn] at c1 q1 HM HSR HML HMS HMA HMZ
      have HSNL := Lib.hid hsn
      clear hsn
      go_upto_region 8 with fail
      obtain ⟨u, hu⟩ : ∃ u, u = wr.alloc (.cells #[.int .u8 ((no : Nat) : Int), .slice ua sn uc] 48) := ⟨_, rfl⟩
      obtain ⟨X, hX⟩ : ∃ X, X = wr.heap.size := ⟨_, rfl⟩
      rw [← hu, ← hX]
      have HBX : Hid (Bk u X [.int .u8 ((no : Nat) : Int), .slice ua sn uc]) := by rw [hu, hX]; exact Lib.hid (Bk.new wr #[.int .u8 ((no : Nat) : Int), .slice ua sn uc] _ (by decide))
      have HXu : Hid (RX w1 u vo (L1)) := by rw [hu]; exact Lib.hid (HXwr.out.on ((On.refl HXwr.out.1.tab).alloc _))
      clear hu hX
      obtain ⟨v4, w4, hrun, hX2, hK2⟩ := HXu.out.step [no, sn] #[.int .u64 ((no : Nat) : Int), .int .u64 ((sn : Nat) : Int)] rfl (by simp only [List.length_cons, List.length_nil]; omega)
      have HR4 := Lib.hid hrun
      have HX4 := Lib.hid hX2
      have HK4 := Lib.hid hK2
      clear hrun hX2 hK2
      have HB4 : Hid (Bk w4 X [.int .u8 ((no : Nat) : Int), .slice ua sn uc]) := Lib.hid (HBX.out.kpn HK4.out)
      have x0 := HBX.out.1.2.1 0 _ rfl
      have x1 := HBX.out.1.2.1 1 _ rfl
      clear c0 c1 s0 s1 s2 s3 s4 s5 s6 s7
      go_wp2_with (at_builtin; refine wp_appendJ rfl (.tmp 57) (.tmp 65) _ _ rfl _ _ _ rfl rfl HR4.out ?_)
      clear x0 x1 HBX HXu HK4
      go_loopw [3, 6] (fun v9 vk wv => ∃ k : Nat, k ≤ sn ∧ vk = .int .i64 (k : Int) ∧ Hid (RX w1 wv v9 ((L1 ++ [no, sn]) ++ (sum.take k).flatMap moW)) ∧ Hid (Bk wv X [.int .u8 ((no : Nat) : Int), .slice ua sn uc])) (fun _ vk _ => sn - (intOf vk).toNat)
      case atStart => exact ⟨0, Nat.zero_le _, rfl, Lib.hid (by rw [HMZ.out]; exact HX4.out), HB4⟩
      case round =>
        rename World => wv
        obtain ⟨v9, hv9⟩ : ∃ v9, v9 = u3 := ⟨_, rfl⟩
        subst hv9
        obtain ⟨k, hk, rfl, HXwv, HBwv⟩ := hrel
        clear HX4 HB4 HXwr
        have x0 := HBwv.out.1.2.1 0 _ rfl
        have x1 := HBwv.out.1.2.1 1 _ rfl
        by_cases hkt : k < sn
        · have hkt' : (k : Int) < (sn : Int) := by omega
          obtain ⟨bm, om, va, vc, rfl, hc⟩ := HM.out k hkt
          have HVR := Lib.hid (hc w1 (On.refl HT1.out)).2.2
          have HSk := Lib.hid (HMS.out k hkt)
          have hlk := HML.out k hk
          obtain ⟨m1, m2, m3⟩ := moB_parts (HQ2.out _ (mem_getD zM sum k (by rw [← HSNL.out]; exact hkt)))
          have HCC : Hid (∀ wx, On w1 wx → _) := Lib.hid hc
          obtain ⟨m, hm⟩ : ∃ m, m = sum.getD k zM := ⟨_, rfl⟩
          obtain ⟨L2, hL2⟩ : ∃ L2, L2 = (L1 ++ [no, sn]) ++ (sum.take k).flatMap moW := ⟨_, rfl⟩
          rw [← hm] at HCC HVR HSk m1 m2 m3
          rw [← hL2] at HSk hlk HXwv
          clear hm hL2 hc
          obtain ⟨cf, vs⟩ := m
          simp only at HCC HVR m1 m2 m3
          have hcf : cf ≤ 998244353 := by omega
          have hl2 : L2.length ≤ 90000 := by omega
          have HPV := Lib.hid (has_pos m3 HVR.out.1)
          have HSM : Hid ((L2 ++ [cf, vs.length]) ++ vsW vs = (L1 ++ [no, sn]) ++ (sum.take (k + 1)).flatMap moW) := Lib.hid (by rw [← HSk.out]; unfold moW; simp [List.append_assoc])
          clear HSk m1 m3 hlk
          have hvn : vs.length ≤ 8 := m2
          clear m2
          obtain ⟨vn, hvn2⟩ : ∃ vn, vn = vs.length := ⟨_, rfl⟩
          rw [← hvn2] at HCC HVR HSM hvn
          have HVN := Lib.hid hvn2
          clear hvn2
          go_upto_region 12 with fail
          have HWa : Hid (IntKind.u64.wrap (vn : Int) = (vn : Int)) := Lib.hid (IntWalk.u64_in _ (by omega))
          have HWb := HWa
          obtain ⟨V0, hV0⟩ : ∃ V0, V0 = wv.drew := ⟨_, rfl⟩
          have hD : On wv V0 := by rw [hV0]; exact (On.refl HXwv.out.1.tab).drew
          have HXV : Hid (RX w1 V0 v9 L2) := Lib.hid (HXwv.out.on hD)
          have HBV := Lib.hid (HBwv.out.on hD)
          obtain ⟨v5, w5, hrun, hX2, hK2⟩ := HXV.out.step [cf, vn] #[.int .u64 ((cf : Nat) : Int), .int .u64 ((vn : Nat) : Int)] rfl (by simp only [List.length_cons, List.length_nil]; omega)
          have HR5 := Lib.hid hrun
          have HX5 := Lib.hid hX2
          have HK5 := Lib.hid hK2
          clear hrun hX2 hK2
          have HB5 := Lib.hid (HBV.out.kpn HK5.out)
          have hf : ∀ wx, On w1 wx → Bk wx X [.int .u8 ((no : Nat) : Int), .slice (some ⟨bm, om, none⟩) sn uc] → (fun wx => wx.cell? ⟨X, 1, none⟩ = some (.slice (some ⟨bm, om, none⟩) sn uc) ∧ wx.cell? ⟨bm, om + k * 2, none⟩ = some (.int .u64 ((cf : Nat) : Int)) ∧ wx.cell? ⟨bm, om + k * 2 + 1, none⟩ = some (.slice va vn vc)) wx := fun wx h k => ⟨k.1.2.1 1 _ rfl, (HCC.out wx h).1, (HCC.out wx h).2.1⟩
          have hSd := hf V0 HXV.out.1 HBV.out
          have hAA := (On.refl HXV.out.1.tab).alloc (.cells #[.int .u64 ((cf : Nat) : Int), .int .u64 ((vn : Nat) : Int)] 53)
          have hSa := hf _ (HXV.out.1.trans hAA) (HBV.out.on hAA)
          have hSb := hf w5 HX5.out.1 HB5.out
          obtain ⟨e1, e2, e3⟩ := hSb
          have hSb := hf w5 HX5.out.1 HB5.out
          simp only at hSd hSa hSb
          clear hD hAA hf HXwv HBwv HXV HBV HK5 x0 x1
          refine region_head_tail (S := fun wx => wx.cell? ⟨X, 1, none⟩ = some (.slice (some ⟨bm, om, none⟩) sn uc) ∧ wx.cell? ⟨bm, om + k * 2, none⟩ = some (.int .u64 ((cf : Nat) : Int)) ∧ wx.cell? ⟨bm, om + k * 2 + 1, none⟩ = some (.slice va vn vc)) 17 (by kernel_rfl) (by kernel_rfl) ?_
          rw [← hV0]
          clear hV0
          refine HeadG.take (i := 0) (v := ?hv14q0) rfl (by kernel_rfl) (by kernel_rfl) (by kernel_rfl) (by kernel_rfl) (by kernel_rfl) (by kernel_rfl) (by kernel_rfl) (fun _ _ _ h => h) (Or.inl ⟨by rfl, ?hy14q0⟩) hSd ?hr14q0
          case hy14q0 => (intro w' hSw; obtain ⟨z0, z1, z2⟩ := hSw; go_simp; try with_reducible rfl)
          try simp only [Act.put, List.setIfInBounds_toArray, List.set_cons_zero, List.set_cons_succ, List.getElem_toArray, List.getElem_cons_zero, List.getElem_cons_succ]
          refine HeadG.take (i := 1) (v := ?hv15q1) rfl (by kernel_rfl) (by kernel_rfl) (by kernel_rfl) (by kernel_rfl) (by kernel_rfl) (by kernel_rfl) (by kernel_rfl) (fun _ _ _ h => h) (Or.inl ⟨by rfl, ?hy15q1⟩) hSd ?hr15q1
          case hy15q1 => (intro w' hSw; obtain ⟨z0, z1, z2⟩ := hSw; go_simp; try with_reducible rfl)
          try simp only [Act.put, List.setIfInBounds_toArray, List.set_cons_zero, List.set_cons_succ, List.getElem_toArray, List.getElem_cons_zero, List.getElem_cons_succ]
          refine HeadG.take (i := 2) (v := ?hv16q2) rfl (by kernel_rfl) (by kernel_rfl) (by kernel_rfl) (by kernel_rfl) (by kernel_rfl) (by kernel_rfl) (by kernel_rfl) (fun _ _ _ h => h) (Or.inl ⟨by rfl, ?hy16q2⟩) hSd ?hr16q2
          case hy16q2 => (intro w' hSw; obtain ⟨z0, z1, z2⟩ := hSw; go_simp; try with_reducible rfl)
          try simp only [Act.put, List.setIfInBounds_toArray, List.set_cons_zero, List.set_cons_succ, List.getElem_toArray, List.getElem_cons_zero, List.getElem_cons_succ]
          refine HeadG.take (i := 3) (v := ?hv17q3) rfl (by kernel_rfl) (by kernel_rfl) (by kernel_rfl) (by kernel_rfl) (by kernel_rfl) (by kernel_rfl) (by kernel_rfl) (fun _ _ _ h => h) (Or.inl ⟨by rfl, ?hy17q3⟩) hSd ?hr17q3
          case hy17q3 => (intro w' hSw; obtain ⟨z0, z1, z2⟩ := hSw; go_simp; try with_reducible rfl)
          try simp only [Act.put, List.setIfInBounds_toArray, List.set_cons_zero, List.set_cons_succ, List.getElem_toArray, List.getElem_cons_zero, List.getElem_cons_succ]
          refine HeadG.take (i := 4) (v := ?hv18q4) rfl (by kernel_rfl) (by kernel_rfl) (by kernel_rfl) (by kernel_rfl) (by kernel_rfl) (by kernel_rfl) (by kernel_rfl) (fun _ _ _ h => h) (Or.inl ⟨by rfl, ?hy18q4⟩) hSd ?hr18q4
          case hy18q4 => (intro w' hSw; obtain ⟨z0, z1, z2⟩ := hSw; go_simp; try with_reducible rfl)
          try simp only [Act.put, List.setIfInBounds_toArray, List.set_cons_zero, List.set_cons_succ, List.getElem_toArray, List.getElem_cons_zero, List.getElem_cons_succ]
          refine HeadG.take (i := 5) (v := ?hv19q5) rfl (by kernel_rfl) (by kernel_rfl) (by kernel_rfl) (by kernel_rfl) (by kernel_rfl) (by kernel_rfl) (by kernel_rfl) (fun _ _ _ h => h) (Or.inl ⟨by rfl, ?hy19q5⟩) hSd ?hr19q5
          case hy19q5 => (intro w' hSw; obtain ⟨z0, z1, z2⟩ := hSw; go_simp; try with_reducible rfl)
          try simp only [Act.put, List.setIfInBounds_toArray, List.set_cons_zero, List.set_cons_succ, List.getElem_toArray, List.getElem_cons_zero, List.getElem_cons_succ]
          refine HeadG.take (i := 6) (v := ?hv20q6) rfl (by kernel_rfl) (by kernel_rfl) (by kernel_rfl) (by kernel_rfl) (by kernel_rfl) (by kernel_rfl) (by kernel_rfl) (fun _ _ _ h => h) (Or.inl ⟨by rfl, ?hy20q6⟩) hSd ?hr20q6
          case hy20q6 => (intro w' hSw; obtain ⟨z0, z1, z2⟩ := hSw; go_simp; try with_reducible rfl)
          try simp only [Act.put, List.setIfInBounds_toArray, List.set_cons_zero, List.set_cons_succ, List.getElem_toArray, List.getElem_cons_zero, List.getElem_cons_succ]
          refine HeadG.take (i := 7) (v := ?hv21q7) rfl (by kernel_rfl) (by kernel_rfl) (by kernel_rfl) (by kernel_rfl) (by kernel_rfl) (by kernel_rfl) (by kernel_rfl) (fun _ _ _ h => h) (Or.inl ⟨by rfl, ?hy21q7⟩) hSd ?hr21q7
          case hy21q7 => (intro w' hSw; obtain ⟨z0, z1, z2⟩ := hSw; go_simp; try with_reducible rfl)
          try simp only [Act.put, List.setIfInBounds_toArray, List.set_cons_zero, List.set_cons_succ, List.getElem_toArray, List.getElem_cons_zero, List.getElem_cons_succ]
          refine HeadG.take (i := 8) (v := ?hv22q8) rfl (by kernel_rfl) (by kernel_rfl) (by kernel_rfl) (by kernel_rfl) (by kernel_rfl) (by kernel_rfl) (by kernel_rfl) (fun _ _ _ h => h) (Or.inl ⟨by rfl, ?hy22q8⟩) hSd ?hr22q8
          case hy22q8 => (intro w' hSw; obtain ⟨z0, z1, z2⟩ := hSw; go_simp; try with_reducible rfl)
          try simp only [Act.put, List.setIfInBounds_toArray, List.set_cons_zero, List.set_cons_succ, List.getElem_toArray, List.getElem_cons_zero, List.getElem_cons_succ]
          refine HeadG.take (i := 9) (v := ?hv23q9) rfl (by kernel_rfl) (by kernel_rfl) (by kernel_rfl) (by kernel_rfl) (by kernel_rfl) (by kernel_rfl) (by kernel_rfl) (fun _ _ _ h => h) (Or.inl ⟨by rfl, ?hy23q9⟩) hSd ?hr23q9
          case hy23q9 => (intro w' hSw; obtain ⟨z0, z1, z2⟩ := hSw; go_simp; try with_reducible rfl)
          try simp only [Act.put, List.setIfInBounds_toArray, List.set_cons_zero, List.set_cons_succ, List.getElem_toArray, List.getElem_cons_zero, List.getElem_cons_succ]
          refine HeadG.take (i := 10) (v := ?hv24q10) rfl (by kernel_rfl) (by kernel_rfl) (by kernel_rfl) (by kernel_rfl) (by kernel_rfl) (by kernel_rfl) (by kernel_rfl) (fun _ _ _ h => h) (Or.inl ⟨by rfl, ?hy24q10⟩) hSd ?hr24q10
          case hy24q10 => (intro w' hSw; obtain ⟨z0, z1, z2⟩ := hSw; go_simp; try with_reducible rfl)
          try simp only [Act.put, List.setIfInBounds_toArray, List.set_cons_zero, List.set_cons_succ, List.getElem_toArray, List.getElem_cons_zero, List.getElem_cons_succ]
          refine HeadG.take (i := 11) (v := ?hv25q11) rfl (by kernel_rfl) (by kernel_rfl) (by kernel_rfl) (by kernel_rfl) (by kernel_rfl) (by kernel_rfl) (by kernel_rfl) (fun _ _ _ h => h) (Or.inl ⟨by rfl, ?hy25q11⟩) hSd ?hr25q11
          case hy25q11 => (intro w' hSw; obtain ⟨z0, z1, z2⟩ := hSw; go_simp; try with_reducible rfl)
          try simp only [Act.put, List.setIfInBounds_toArray, List.set_cons_zero, List.set_cons_succ, List.getElem_toArray, List.getElem_cons_zero, List.getElem_cons_succ]
          refine HeadG.take (i := 12) (v := ?hv26q12) rfl (by kernel_rfl) (by kernel_rfl) (by kernel_rfl) (by kernel_rfl) (by kernel_rfl) (by kernel_rfl) (by kernel_rfl) (fun _ _ _ h => h) (Or.inl ⟨by rfl, ?hy26q12⟩) hSd ?hr26q12
          case hy26q12 => (intro w' hSw; obtain ⟨z0, z1, z2⟩ := hSw; go_simp; try with_reducible rfl)
          try simp only [Act.put, List.setIfInBounds_toArray, List.set_cons_zero, List.set_cons_succ, List.getElem_toArray, List.getElem_cons_zero, List.getElem_cons_succ]
          refine HeadG.take (i := 13) (v := ?hv27q13) rfl (by kernel_rfl) (by kernel_rfl) (by kernel_rfl) (by kernel_rfl) (by kernel_rfl) (by kernel_rfl) (by kernel_rfl) (fun _ _ _ h => h) (Or.inl ⟨by rfl, ?hy27q13⟩) hSd ?hr27q13
          case hy27q13 => (intro w' hSw; obtain ⟨z0, z1, z2⟩ := hSw; go_simp; try with_reducible rfl)
          try simp only [Act.put, List.setIfInBounds_toArray, List.set_cons_zero, List.set_cons_succ, List.getElem_toArray, List.getElem_cons_zero, List.getElem_cons_succ]
          refine HeadG.take (i := 14) (v := .int .u64 ((vn : Nat) : Int)) rfl (by kernel_rfl) (by kernel_rfl) (by kernel_rfl) (by kernel_rfl) (by kernel_rfl) (by kernel_rfl) (by kernel_rfl) (fun _ _ _ h => h) (Or.inl ⟨by rfl, ?hy28q14⟩) hSd ?hr28q14
          case hy28q14 => (intro w' hSw; obtain ⟨z0, z1, z2⟩ := hSw; have h1 := HWa.out; have h2 := HWb.out; go_simp; (try (with_reducible rfl)); (try simp [h1, h2]))
          try simp only [Act.put, List.setIfInBounds_toArray, List.set_cons_zero, List.set_cons_succ, List.getElem_toArray, List.getElem_cons_zero, List.getElem_cons_succ]
          refine HeadG.one (i := 15) rfl (by kernel_rfl) (by kernel_rfl) (fun K9 hK9 => ?_)
          go_simp
          refine hK9.out _ _ hSa ?_
          clear hK9 K9
          try simp only [Act.put, List.setIfInBounds_toArray, List.set_cons_zero, List.set_cons_succ, List.getElem_toArray, List.getElem_cons_zero, List.getElem_cons_succ]
          refine HeadG.one (i := 16) rfl (by kernel_rfl) (by kernel_rfl) (fun K9 hK9 => ?_)
          refine step_appendW rfl (.tmp 74) (.tmp 89) _ _ rfl _ _ _ rfl rfl HR5.out ?_
          refine hK9.out _ _ hSb ?_
          clear hK9 K9
          try simp only [Act.put, List.setIfInBounds_toArray, List.set_cons_zero, List.set_cons_succ, List.getElem_toArray, List.getElem_cons_zero, List.getElem_cons_succ]
          refine HeadG.last (i := 17) rfl (by kernel_rfl) (by kernel_rfl) (by kernel_rfl) (fun K9 hK9 => ?_)
          go_simp
          refine hK9.out _ _ ?_
          clear hK9 K9
          try simp only [Act.put, List.setIfInBounds_toArray, List.set_cons_zero, List.set_cons_succ, List.getElem_toArray, List.getElem_cons_zero, List.getElem_cons_succ]
          clear hSd hSa hSb
          have HC13 : Hid (Calls Tryd.prog 65 #[v5, .slice va vn vc] w5 fun e w' => (∃ v', e = .returned v' ∧ RX w1 w' v' ((L2 ++ [cf, vn]) ++ vsW vs)) ∧ KpN w5 w') := by
            have h := rvars_any w1 (L2 ++ [cf, vn]) v5 vs va vc w5 HX5.out (fun wq ho _ => by rw [← HVN.out]; exact HVR.out.on ho) HPV.out (by rw [List.length_append, ← HVN.out]; simp only [List.length_cons, List.length_nil]; omega)
            rw [← HVN.out] at h; exact Lib.hid h
          go_wp2_with (go_at_call 65; (with_reducible refine HC13.out.mono ?_); rintro e w6 ⟨⟨v6, rfl, hX6⟩, hK6⟩; refine Hid.out ?_)
          refine Lib.hid ?_
          rw [HSM.out] at hX6
          have HX6 := Lib.hid hX6
          have HB6 := Lib.hid (HB5.out.kpn hK6)
          clear hX6 hK6 HC13 HX5 HB5 e1 e2 e3
          go_wp2
          go_roundw
          case rel => exact ⟨k + 1, by omega, by simp, HX6, HB6⟩
          case measure => simp [intOf]; omega
        · obtain rfl : sn = k := by omega
          rw [HMA.out, HSR.out] at HXwv
          go_wp2
          go_roundw
          case rel => exact ⟨i + 1, by omega, by simp, HXwv⟩
          case measure => simp [intOf]; omega
    · obtain rfl : S.rules.length = i := by omega
      rw [HA1.out] at HXwr
      have HS3 : Hid (∀ i, i < S.perms.length → ((hdW S ++ S.rules.flatMap ruW) ++ (S.perms.take i).flatMap pmW) ++ pmW (S.perms.getD i zPm) = (hdW S ++ S.rules.flatMap ruW) ++ (S.perms.take (i + 1)).flatMap pmW) := Lib.hid fun i hi => by rw [flat_snoc pmW zPm S.perms i hi, List.append_assoc]
      have HA3 : Hid ((hdW S ++ S.rules.flatMap ruW) ++ (S.perms.take S.perms.length).flatMap pmW = (hdW S ++ S.rules.flatMap ruW) ++ S.perms.flatMap pmW) := by rw [List.take_length]; exact Lib.hid rfl
      have HZ3 : Hid ((hdW S ++ S.rules.flatMap ruW) ++ (S.perms.take 0).flatMap pmW = hdW S ++ S.rules.flatMap ruW) := Lib.hid (by simp)
      have HPM : Hid (∀ i, i < S.perms.length → ∃ b off ua uc va vc, a3 = some ⟨b, off, none⟩ ∧ (∀ wq, On w1 wq → wq.cell? ⟨b, off + i * 2, none⟩ = some (.slice ua (S.perms.getD i zPm).1.length uc) ∧ wq.cell? ⟨b, off + i * 2 + 1, none⟩ = some (.slice va (S.perms.getD i zPm).2.length vc)) ∧ TupL w1 (.slice ua (S.perms.getD i zPm).1.length uc) (S.perms.getD i zPm).1 ∧ TupL w1 (.slice va (S.perms.getD i zPm).2.length vc) (S.perms.getD i zPm).2) := fun i hi => by
        obtain ⟨b, off, e, u, u', d0, d1, d2, d3⟩ := HRB.out.2.2.2.1.cells i hi
        obtain ⟨ua, uc, rfl⟩ := d2.shape
        obtain ⟨va, vc, rfl⟩ := d3.shape
        exact ⟨b, off, ua, uc, va, vc, e, fun wq h => ⟨cell_on h d0, cell_on h d1⟩, d2, d3⟩
      go_wp2_with fail
      clear s0 s1 s2 s3 s4 s5 s6 s7
      go_loopw [3, 7] (fun v8 vi wq => ∃ i : Nat, i ≤ S.perms.length ∧ vi = .int .i64 (i : Int) ∧ Hid (RX w1 wq v8 ((hdW S ++ S.rules.flatMap ruW) ++ (S.perms.take i).flatMap pmW))) (fun _ vi _ => S.perms.length - (intOf vi).toNat)
      case atStart => exact ⟨0, Nat.zero_le _, rfl, Lib.hid (by rw [HZ3.out]; exact HXwr.out)⟩
      case round =>
        rename World => wq
        obtain ⟨v8, hv8⟩ : ∃ v8, v8 = u3 := ⟨_, rfl⟩
        subst hv8
        obtain ⟨i, hi, rfl, HXwq⟩ := hrel
        clear HXwr
        obtain ⟨s0, s1, s2, s3, s4, s5, s6, s7⟩ := HSY.out wq HXwq.out.1
        by_cases hlt : i < S.perms.length
        · have hlt' : (i : Int) < ((S.perms.length : Nat) : Int) := by omega
          obtain ⟨b, off, ua, uc, va, vc, rfl, hc, ht1, ht2⟩ := HPM.out i hlt
          obtain ⟨c0, c1⟩ := hc wq HXwq.out.1
          have HS := Lib.hid (HS3.out i hlt)
          have hl1 := HL3.out i hi
          obtain ⟨q1, q2, q3, q4, q5⟩ := pmB_parts (HPMB.out _ (mem_getD zPm S.perms i hlt))
          obtain ⟨p, hp⟩ : ∃ p, p = S.perms.getD i zPm := ⟨_, rfl⟩
          obtain ⟨L1, hL1⟩ : ∃ L1, L1 = (hdW S ++ S.rules.flatMap ruW) ++ (S.perms.take i).flatMap pmW := ⟨_, rfl⟩
          rw [← hp] at c0 c1 ht1 ht2 HS q1 q2 q3 q4 q5
          rw [← hL1] at HS hl1 HXwq
          clear hp hL1 hc
          obtain ⟨lt, rt⟩ := p
          simp only at c0 c1 ht1 ht2 q1 q2 q3 q4 q5
          have hl1' : L1.length ≤ 80000 := by omega
          have hok : ∀ {u : Value} {tl : List (List Vr)}, TupL w1 u tl → (∀ t ∈ tl, tnB S (lt.getD 0 []).length t = true) → ∀ j, j < tl.length → (tl.getD j []).length ≤ 4 ∧ ∀ v ∈ tl.getD j [], posV v := fun {u tl} ht h j hj => by
            have htm := mem_getD [] tl j hj
            obtain ⟨a, c, rfl⟩ := ht.shape
            obtain ⟨_, _, _, u, _, h2⟩ := ht.cells j hj
            have h3 := tuB_parts (tnB_parts (h _ htm)).2
            exact ⟨h3.2.1, has_pos h3.2.2 h2.1⟩
          have HPL := Lib.hid (hok ht1 q4)
          have HPR := Lib.hid (hok ht2 q5)
          have HTL : Hid (∀ j, j < lt.length → _) := Lib.hid (ht1.stt w1)
          have HTR : Hid (∀ j, j < rt.length → _) := Lib.hid (ht2.stt w1)
          have hn0 : (lt.getD 0 []).length ≤ 4 := (tuB_parts (tnB_parts (q4 _ (mem_getD [] lt 0 (by omega)))).2).2.1
          obtain ⟨fb, fo, ta, tc, hua, hf, -⟩ := ht1.stt w1 0 (by omega)
          rw [Nat.add_zero] at hf
          subst hua
          have HF := Lib.hid (fun wz (h : On w1 wz) => cell_on h (hf w1 (On.refl HT1.out) (KpW.refl _ _)))
          have HSR : Hid ((((L1 ++ [lt.length, (lt.getD 0 []).length]) ++ tsW lt) ++ tsW rt) = (hdW S ++ S.rules.flatMap ruW) ++ (S.perms.take (i + 1)).flatMap pmW) := Lib.hid (by rw [← HS.out]; unfold pmW; simp [List.append_assoc])
          have HBL := Lib.hid (fun k => tsW_len q2 q4 k)
          have HBR := Lib.hid (fun k => tsW_len (by omega : rt.length ≤ 4) q5 k)
          clear hok q4 q5 ht1 ht2 HS hl1 hf
          have hll : lt.length ≤ 4 := q2
          have hll0 : 0 < lt.length := q1
          have hrl : rt.length ≤ 4 := by omega
          have HZL : Hid (∀ X : List Nat, X ++ tsW (lt.take 0) = X) := Lib.hid fun X => by simp [tsW]
          have HZR : Hid (∀ X : List Nat, X ++ tsW (rt.take 0) = X) := Lib.hid fun X => by simp [tsW]
          have HAL : Hid (∀ X : List Nat, X ++ tsW (lt.take lt.length) = X ++ tsW lt) := Lib.hid fun X => by rw [List.take_length]
          have HAR : Hid (∀ X : List Nat, X ++ tsW (rt.take rt.length) = X ++ tsW rt) := Lib.hid fun X => by rw [List.take_length]
          have HSL : Hid (∀ (X : List Nat) k, k < lt.length → (X ++ tsW (lt.take k)) ++ vsW (lt.getD k []) = X ++ tsW (lt.take (k + 1))) := Lib.hid fun X k hk => by rw [tsW_snoc lt k hk, List.append_assoc]
          have HSRR : Hid (∀ (X : List Nat) k, k < rt.length → (X ++ tsW (rt.take k)) ++ vsW (rt.getD k []) = X ++ tsW (rt.take (k + 1))) := Lib.hid fun X k hk => by rw [tsW_snoc rt k hk, List.append_assoc]
          obtain ⟨tn, htn⟩ : ∃ tn, tn = (lt.getD 0 []).length := ⟨_, rfl⟩
          rw [← htn] at hn0 HSR HF
          clear htn q1 q2 q3
          obtain ⟨ln, hln⟩ : ∃ ln, ln = lt.length := ⟨_, rfl⟩
          obtain ⟨rn, hrn⟩ : ∃ rn, rn = rt.length := ⟨_, rfl⟩
          rw [← hln] at c0 HSR hll hll0 HTL HPL HAL HSL
          rw [← hrn] at c1 hrl HTR HPR HAR HSRR
          have HLNL : Hid (lt.length ≤ 4) := by rw [← hln]; exact Lib.hid hll
          clear hln hrn
          have hll0' : (0 : Int) < (ln : Int) := by omega
          go_upto_region 18 with fail
          obtain ⟨u, hu⟩ : ∃ u, u = wq.alloc (.cells #[.slice (some ⟨fb, fo, none⟩) ln uc, .slice va rn vc] 60) := ⟨_, rfl⟩
          obtain ⟨X, hX⟩ : ∃ X, X = wq.heap.size := ⟨_, rfl⟩
          rw [← hu, ← hX]
          have HBX : Hid (Bk u X [.slice (some ⟨fb, fo, none⟩) ln uc, .slice va rn vc]) := by rw [hu, hX]; exact Lib.hid (Bk.new wq #[.slice (some ⟨fb, fo, none⟩) ln uc, .slice va rn vc] _ (by decide))
          have HXu : Hid (RX w1 u v8 (L1)) := by rw [hu]; exact Lib.hid (HXwq.out.on ((On.refl HXwq.out.1.tab).alloc _))
          clear hu hX
          have HWa : Hid (IntKind.u64.wrap (ln : Int) = (ln : Int)) := Lib.hid (IntWalk.u64_in _ (by omega))
          have HWb : Hid (IntKind.u64.wrap (tn : Int) = (tn : Int)) := Lib.hid (IntWalk.u64_in _ (by omega))
          obtain ⟨V0, hV0⟩ : ∃ V0, V0 = u.drew := ⟨_, rfl⟩
          have hD : On u V0 := by rw [hV0]; exact (On.refl HXu.out.1.tab).drew
          have HXV : Hid (RX w1 V0 v8 L1) := Lib.hid (HXu.out.on hD)
          have HBV := Lib.hid (HBX.out.on hD)
          obtain ⟨v5, w5, hrun, hX2, hK2⟩ := HXV.out.step [ln, tn] #[.int .u64 ((ln : Nat) : Int), .int .u64 ((tn : Nat) : Int)] rfl (by simp only [List.length_cons, List.length_nil]; omega)
          have HR5 := Lib.hid hrun
          have HX5 := Lib.hid hX2
          have HK5 := Lib.hid hK2
          clear hrun hX2 hK2
          have HB5 := Lib.hid (HBV.out.kpn HK5.out)
          have hf : ∀ wx, On w1 wx → Bk wx X [.slice (some ⟨fb, fo, none⟩) ln uc, .slice va rn vc] → (fun wx => wx.cell? ⟨X, 0, none⟩ = some (.slice (some ⟨fb, fo, none⟩) ln uc) ∧ wx.cell? ⟨fb, fo, none⟩ = some (.slice ta tn tc)) wx := fun wx h k => ⟨k.1.2.1 0 _ rfl, HF.out wx h⟩
          have hSd := hf V0 HXV.out.1 HBV.out
          have hAA := (On.refl HXV.out.1.tab).alloc (.cells #[.int .u64 ((ln : Nat) : Int), .int .u64 ((tn : Nat) : Int)] 53)
          have hSa := hf _ (HXV.out.1.trans hAA) (HBV.out.on hAA)
          have hSb := hf w5 HX5.out.1 HB5.out
          simp only at hSd hSa hSb
          clear hD hAA hf HXwq HXV HBV HK5 HBX HXu c0 c1 s0 s1 s2 s3 s4 s5 s6 s7
          refine region_head_tail (S := fun wx => wx.cell? ⟨X, 0, none⟩ = some (.slice (some ⟨fb, fo, none⟩) ln uc) ∧ wx.cell? ⟨fb, fo, none⟩ = some (.slice ta tn tc)) 13 (by kernel_rfl) (by kernel_rfl) ?_
          rw [← hV0]
          clear hV0
          refine HeadG.take (i := 0) (v := ?hv29q0) rfl (by kernel_rfl) (by kernel_rfl) (by kernel_rfl) (by kernel_rfl) (by kernel_rfl) (by kernel_rfl) (by kernel_rfl) (fun _ _ _ h => h) (Or.inl ⟨by rfl, ?hy29q0⟩) hSd ?hr29q0
          case hy29q0 => (intro w' hSw; obtain ⟨z0, z1⟩ := hSw; go_simp; try with_reducible rfl)
          try simp only [Act.put, List.setIfInBounds_toArray, List.set_cons_zero, List.set_cons_succ, List.getElem_toArray, List.getElem_cons_zero, List.getElem_cons_succ]
          refine HeadG.take (i := 1) (v := ?hv30q1) rfl (by kernel_rfl) (by kernel_rfl) (by kernel_rfl) (by kernel_rfl) (by kernel_rfl) (by kernel_rfl) (by kernel_rfl) (fun _ _ _ h => h) (Or.inl ⟨by rfl, ?hy30q1⟩) hSd ?hr30q1
          case hy30q1 => (intro w' hSw; obtain ⟨z0, z1⟩ := hSw; go_simp; try with_reducible rfl)
          try simp only [Act.put, List.setIfInBounds_toArray, List.set_cons_zero, List.set_cons_succ, List.getElem_toArray, List.getElem_cons_zero, List.getElem_cons_succ]
          refine HeadG.take (i := 2) (v := ?hv31q2) rfl (by kernel_rfl) (by kernel_rfl) (by kernel_rfl) (by kernel_rfl) (by kernel_rfl) (by kernel_rfl) (by kernel_rfl) (fun _ _ _ h => h) (Or.inl ⟨by rfl, ?hy31q2⟩) hSd ?hr31q2
          case hy31q2 => (intro w' hSw; obtain ⟨z0, z1⟩ := hSw; go_simp; try with_reducible rfl)
          try simp only [Act.put, List.setIfInBounds_toArray, List.set_cons_zero, List.set_cons_succ, List.getElem_toArray, List.getElem_cons_zero, List.getElem_cons_succ]
          refine HeadG.take (i := 3) (v := ?hv32q3) rfl (by kernel_rfl) (by kernel_rfl) (by kernel_rfl) (by kernel_rfl) (by kernel_rfl) (by kernel_rfl) (by kernel_rfl) (fun _ _ _ h => h) (Or.inl ⟨by rfl, ?hy32q3⟩) hSd ?hr32q3
          case hy32q3 => (intro w' hSw; obtain ⟨z0, z1⟩ := hSw; go_simp; try with_reducible rfl)
          try simp only [Act.put, List.setIfInBounds_toArray, List.set_cons_zero, List.set_cons_succ, List.getElem_toArray, List.getElem_cons_zero, List.getElem_cons_succ]
          refine HeadG.take (i := 4) (v := .int .u64 ((ln : Nat) : Int)) rfl (by kernel_rfl) (by kernel_rfl) (by kernel_rfl) (by kernel_rfl) (by kernel_rfl) (by kernel_rfl) (by kernel_rfl) (fun _ _ _ h => h) (Or.inl ⟨by rfl, ?hy33q4⟩) hSd ?hr33q4
          case hy33q4 => (intro w' hSw; obtain ⟨z0, z1⟩ := hSw; have h1 := HWa.out; have h2 := HWb.out; go_simp; (try (with_reducible rfl)); (try simp [h1, h2]))
          try simp only [Act.put, List.setIfInBounds_toArray, List.set_cons_zero, List.set_cons_succ, List.getElem_toArray, List.getElem_cons_zero, List.getElem_cons_succ]
          refine HeadG.take (i := 5) (v := ?hv34q5) rfl (by kernel_rfl) (by kernel_rfl) (by kernel_rfl) (by kernel_rfl) (by kernel_rfl) (by kernel_rfl) (by kernel_rfl) (fun _ _ _ h => h) (Or.inl ⟨by rfl, ?hy34q5⟩) hSd ?hr34q5
          case hy34q5 => (intro w' hSw; obtain ⟨z0, z1⟩ := hSw; go_simp; try with_reducible rfl)
          try simp only [Act.put, List.setIfInBounds_toArray, List.set_cons_zero, List.set_cons_succ, List.getElem_toArray, List.getElem_cons_zero, List.getElem_cons_succ]
          refine HeadG.take (i := 6) (v := ?hv35q6) rfl (by kernel_rfl) (by kernel_rfl) (by kernel_rfl) (by kernel_rfl) (by kernel_rfl) (by kernel_rfl) (by kernel_rfl) (fun _ _ _ h => h) (Or.inl ⟨by rfl, ?hy35q6⟩) hSd ?hr35q6
          case hy35q6 => (intro w' hSw; obtain ⟨z0, z1⟩ := hSw; go_simp; try with_reducible rfl)
          try simp only [Act.put, List.setIfInBounds_toArray, List.set_cons_zero, List.set_cons_succ, List.getElem_toArray, List.getElem_cons_zero, List.getElem_cons_succ]
          refine HeadG.take (i := 7) (v := ?hv36q7) rfl (by kernel_rfl) (by kernel_rfl) (by kernel_rfl) (by kernel_rfl) (by kernel_rfl) (by kernel_rfl) (by kernel_rfl) (fun _ _ _ h => h) (Or.inl ⟨by rfl, ?hy36q7⟩) hSd ?hr36q7
          case hy36q7 => (intro w' hSw; obtain ⟨z0, z1⟩ := hSw; go_simp; try with_reducible rfl)
          try simp only [Act.put, List.setIfInBounds_toArray, List.set_cons_zero, List.set_cons_succ, List.getElem_toArray, List.getElem_cons_zero, List.getElem_cons_succ]
          refine HeadG.take (i := 8) (v := ?hv37q8) rfl (by kernel_rfl) (by kernel_rfl) (by kernel_rfl) (by kernel_rfl) (by kernel_rfl) (by kernel_rfl) (by kernel_rfl) (fun _ _ _ h => h) (Or.inl ⟨by rfl, ?hy37q8⟩) hSd ?hr37q8
          case hy37q8 => (intro w' hSw; obtain ⟨z0, z1⟩ := hSw; go_simp; try with_reducible rfl)
          try simp only [Act.put, List.setIfInBounds_toArray, List.set_cons_zero, List.set_cons_succ, List.getElem_toArray, List.getElem_cons_zero, List.getElem_cons_succ]
          refine HeadG.take (i := 9) (v := ?hv38q9) rfl (by kernel_rfl) (by kernel_rfl) (by kernel_rfl) (by kernel_rfl) (by kernel_rfl) (by kernel_rfl) (by kernel_rfl) (fun _ _ _ h => h) (Or.inl ⟨by rfl, ?hy38q9⟩) hSd ?hr38q9
          case hy38q9 => (intro w' hSw; obtain ⟨z0, z1⟩ := hSw; go_simp; try with_reducible rfl)
          try simp only [Act.put, List.setIfInBounds_toArray, List.set_cons_zero, List.set_cons_succ, List.getElem_toArray, List.getElem_cons_zero, List.getElem_cons_succ]
          refine HeadG.take (i := 10) (v := .int .u64 ((tn : Nat) : Int)) rfl (by kernel_rfl) (by kernel_rfl) (by kernel_rfl) (by kernel_rfl) (by kernel_rfl) (by kernel_rfl) (by kernel_rfl) (fun _ _ _ h => h) (Or.inl ⟨by rfl, ?hy39q10⟩) hSd ?hr39q10
          case hy39q10 => (intro w' hSw; obtain ⟨z0, z1⟩ := hSw; have h1 := HWa.out; have h2 := HWb.out; go_simp; (try (with_reducible rfl)); (try simp [h1, h2]))
          try simp only [Act.put, List.setIfInBounds_toArray, List.set_cons_zero, List.set_cons_succ, List.getElem_toArray, List.getElem_cons_zero, List.getElem_cons_succ]
          refine HeadG.one (i := 11) rfl (by kernel_rfl) (by kernel_rfl) (fun K9 hK9 => ?_)
          go_simp
          refine hK9.out _ _ hSa ?_
          clear hK9 K9
          try simp only [Act.put, List.setIfInBounds_toArray, List.set_cons_zero, List.set_cons_succ, List.getElem_toArray, List.getElem_cons_zero, List.getElem_cons_succ]
          refine HeadG.one (i := 12) rfl (by kernel_rfl) (by kernel_rfl) (fun K9 hK9 => ?_)
          refine step_appendW rfl (.tmp 111) (.tmp 122) _ _ rfl _ _ _ rfl rfl HR5.out ?_
          refine hK9.out _ _ hSb ?_
          clear hK9 K9
          try simp only [Act.put, List.setIfInBounds_toArray, List.set_cons_zero, List.set_cons_succ, List.getElem_toArray, List.getElem_cons_zero, List.getElem_cons_succ]
          refine HeadG.last (i := 13) rfl (by kernel_rfl) (by kernel_rfl) (by kernel_rfl) (fun K9 hK9 => ?_)
          go_simp
          refine hK9.out _ _ ?_
          clear hK9 K9
          try simp only [Act.put, List.setIfInBounds_toArray, List.set_cons_zero, List.set_cons_succ, List.getElem_toArray, List.getElem_cons_zero, List.getElem_cons_succ]
          clear hSd hSa hSb
          go_wp2_with fail
          go_loopw [3, 9] (fun v9 vk wv => ∃ k : Nat, k ≤ ln ∧ vk = .int .i64 (k : Int) ∧ Hid (RX w1 wv v9 ((L1 ++ [ln, tn]) ++ tsW (lt.take k))) ∧ Hid (Bk wv X [.slice (some ⟨fb, fo, none⟩) ln uc, .slice va rn vc])) (fun _ vk _ => ln - (intOf vk).toNat)
          case atStart => exact ⟨0, Nat.zero_le _, rfl, Lib.hid (by rw [HZL.out]; exact HX5.out), HB5⟩
          case round =>
            rename World => wv
            obtain ⟨v9, hv9⟩ : ∃ v9, v9 = u3 := ⟨_, rfl⟩
            subst hv9
            obtain ⟨k, hk, rfl, HXwv, HBwv⟩ := hrel
            clear HX5 HB5
            have x0 := HBwv.out.1.2.1 0 _ rfl
            have x1 := HBwv.out.1.2.1 1 _ rfl
            by_cases hkt : k < ln
            · have hkt' : (k : Int) < (ln : Int) := by omega
              obtain ⟨tb, tq, va2, vc2, hta, htc, hsv⟩ := HTL.out k hkt
              try simp only [Option.some.injEq, Addr.mk.injEq, and_true] at hta
              obtain ⟨rfl, rfl⟩ := hta
              have t0 := cell_on HXwv.out.1 (htc w1 (On.refl HT1.out) (KpW.refl _ _))
              have HSV : Hid (VRw w1 (.slice va2 (lt.getD k []).length vc2) (lt.getD k [])) := Lib.hid (hsv w1 (On.refl HT1.out) (KpW.refl _ _))
              obtain ⟨hp4, hpp⟩ := HPL.out k hkt
              have HPV := Lib.hid hpp
              have HSk := Lib.hid (HSL.out (L1 ++ [ln, tn]) k hkt)
              have hbk := HBL.out k
              have hl9 : ((L1 ++ [ln, tn]) ++ tsW (lt.take k)).length ≤ 90000 := by (rw [List.length_append, List.length_append]; simp only [List.length_cons, List.length_nil]; omega)
              clear htc hsv hpp hbk
              obtain ⟨t, ht⟩ : ∃ t, t = lt.getD k [] := ⟨_, rfl⟩
              rw [← ht] at t0 HSV hp4 HPV HSk
              clear ht
              obtain ⟨L2, hL2⟩ : ∃ L2, L2 = (L1 ++ [ln, tn]) ++ tsW (lt.take k) := ⟨_, rfl⟩
              rw [← hL2] at HSk hl9 HXwv
              clear hL2
              obtain ⟨tl, htl⟩ : ∃ tl, tl = t.length := ⟨_, rfl⟩
              rw [← htl] at t0 HSV hp4
              have HTL9 := Lib.hid htl
              clear htl
              have HC9 : Hid (Calls Tryd.prog 65 #[v9, .slice va2 tl vc2] wv fun e w' => (∃ v', e = .returned v' ∧ RX w1 w' v' (L2 ++ vsW t)) ∧ KpN wv w') := by
                have h := rvars_any w1 L2 v9 t va2 vc2 wv HXwv.out (fun wq ho _ => by rw [← HTL9.out]; exact HSV.out.on ho) HPV.out (by rw [← HTL9.out]; omega)
                rw [← HTL9.out] at h; exact Lib.hid h
              go_wp2_with (go_at_call 65; (with_reducible refine HC9.out.mono ?_); rintro e w6 ⟨⟨v6, rfl, hX6⟩, hK6⟩; refine Hid.out ?_)
              refine Lib.hid ?_
              rw [HSk.out] at hX6
              have HX6 := Lib.hid hX6
              have HB6 := Lib.hid (HBwv.out.kpn hK6)
              clear hX6 hK6 HC9 t0 x0 x1
              go_wp2
              go_roundw
              case rel => exact ⟨k + 1, by omega, by simp, HX6, HB6⟩
              case measure => simp [intOf]; omega
            · obtain rfl : ln = k := by omega
              rw [HAL.out] at HXwv
              have HXL := HXwv
              have HBLk := HBwv
              have HBLL : Hid ((tsW lt).length ≤ 32) := Lib.hid (by have h := HBL.out lt.length; rw [List.take_length] at h; have := HLNL.out; omega)
              clear HXwv HBwv
              go_wp2_with fail
              go_loopw [3, 10] (fun v9 vk wv => ∃ k : Nat, k ≤ rn ∧ vk = .int .i64 (k : Int) ∧ Hid (RX w1 wv v9 (((L1 ++ [ln, tn]) ++ tsW lt) ++ tsW (rt.take k))) ∧ Hid (Bk wv X [.slice (some ⟨fb, fo, none⟩) ln uc, .slice va rn vc])) (fun _ vk _ => rn - (intOf vk).toNat)
              case atStart => exact ⟨0, Nat.zero_le _, rfl, Lib.hid (by rw [HZR.out]; exact HXL.out), HBLk⟩
              case round =>
                rename World => wv
                obtain ⟨v9, hv9⟩ : ∃ v9, v9 = u3 := ⟨_, rfl⟩
                subst hv9
                obtain ⟨k, hk, rfl, HXwv, HBwv⟩ := hrel
                clear HXL HBLk
                have x0 := HBwv.out.1.2.1 0 _ rfl
                have x1 := HBwv.out.1.2.1 1 _ rfl
                by_cases hkt : k < rn
                · have hkt' : (k : Int) < (rn : Int) := by omega
                  obtain ⟨tb, tq, va2, vc2, hta, htc, hsv⟩ := HTR.out k hkt
                  try simp only [Option.some.injEq, Addr.mk.injEq, and_true] at hta
                  subst hta
                  have t0 := cell_on HXwv.out.1 (htc w1 (On.refl HT1.out) (KpW.refl _ _))
                  have HSV : Hid (VRw w1 (.slice va2 (rt.getD k []).length vc2) (rt.getD k [])) := Lib.hid (hsv w1 (On.refl HT1.out) (KpW.refl _ _))
                  obtain ⟨hp4, hpp⟩ := HPR.out k hkt
                  have HPV := Lib.hid hpp
                  have HSk := Lib.hid (HSRR.out ((L1 ++ [ln, tn]) ++ tsW lt) k hkt)
                  have hbk := HBR.out k
                  have hl9 : (((L1 ++ [ln, tn]) ++ tsW lt) ++ tsW (rt.take k)).length ≤ 90000 := by (have := HBLL.out; rw [List.length_append, List.length_append, List.length_append]; simp only [List.length_cons, List.length_nil]; omega)
                  clear htc hsv hpp hbk
                  obtain ⟨t, ht⟩ : ∃ t, t = rt.getD k [] := ⟨_, rfl⟩
                  rw [← ht] at t0 HSV hp4 HPV HSk
                  clear ht
                  obtain ⟨L2, hL2⟩ : ∃ L2, L2 = ((L1 ++ [ln, tn]) ++ tsW lt) ++ tsW (rt.take k) := ⟨_, rfl⟩
                  rw [← hL2] at HSk hl9 HXwv
                  clear hL2
                  obtain ⟨tl, htl⟩ : ∃ tl, tl = t.length := ⟨_, rfl⟩
                  rw [← htl] at t0 HSV hp4
                  have HTL9 := Lib.hid htl
                  clear htl
                  have HC9 : Hid (Calls Tryd.prog 65 #[v9, .slice va2 tl vc2] wv fun e w' => (∃ v', e = .returned v' ∧ RX w1 w' v' (L2 ++ vsW t)) ∧ KpN wv w') := by
                    have h := rvars_any w1 L2 v9 t va2 vc2 wv HXwv.out (fun wq ho _ => by rw [← HTL9.out]; exact HSV.out.on ho) HPV.out (by rw [← HTL9.out]; omega)
                    rw [← HTL9.out] at h; exact Lib.hid h
                  go_wp2_with (go_at_call 65; (with_reducible refine HC9.out.mono ?_); rintro e w6 ⟨⟨v6, rfl, hX6⟩, hK6⟩; refine Hid.out ?_)
                  refine Lib.hid ?_
                  rw [HSk.out] at hX6
                  have HX6 := Lib.hid hX6
                  have HB6 := Lib.hid (HBwv.out.kpn hK6)
                  clear hX6 hK6 HC9 t0 x0 x1
                  go_wp2
                  go_roundw
                  case rel => exact ⟨k + 1, by omega, by simp, HX6, HB6⟩
                  case measure => simp [intOf]; omega
                · obtain rfl : rn = k := by omega
                  rw [HAR.out] at HXwv
                  rw [HSR.out] at HXwv
                  go_wp2
                  go_roundw
                  case rel => exact ⟨i + 1, by omega, by simp, HXwv⟩
                  case measure => simp [intOf]; omega
        · obtain rfl : S.perms.length = i := by omega
          rw [HA3.out] at HXwq
          have HS4 : Hid (∀ i, i < S.looks.length → (((hdW S ++ S.rules.flatMap ruW) ++ S.perms.flatMap pmW) ++ (S.looks.take i).flatMap lkW) ++ lkW (S.looks.getD i zLk) = ((hdW S ++ S.rules.flatMap ruW) ++ S.perms.flatMap pmW) ++ (S.looks.take (i + 1)).flatMap lkW) := Lib.hid fun i hi => by rw [flat_snoc lkW zLk S.looks i hi, List.append_assoc]
          have HA4 : Hid (((hdW S ++ S.rules.flatMap ruW) ++ S.perms.flatMap pmW) ++ (S.looks.take S.looks.length).flatMap lkW = wordsV S) := by rw [List.take_length]; exact Lib.hid rfl
          have HZ4 : Hid (((hdW S ++ S.rules.flatMap ruW) ++ S.perms.flatMap pmW) ++ (S.looks.take 0).flatMap lkW = (hdW S ++ S.rules.flatMap ruW) ++ S.perms.flatMap pmW) := Lib.hid (by simp)
          have HLK : Hid (∀ i, i < S.looks.length → ∃ b off ua uc va vc, a4 = some ⟨b, off, none⟩ ∧ (∀ wq, On w1 wq → wq.cell? ⟨b, off + i * 4, none⟩ = some (.slice ua (S.looks.getD i zLk).tu.length uc) ∧ wq.cell? ⟨b, off + i * 4 + 1, none⟩ = some (.slice va (S.looks.getD i zLk).ta.length vc) ∧ wq.cell? ⟨b, off + i * 4 + 2, none⟩ = some (.int .u8 (S.looks.getD i zLk).ct.1) ∧ wq.cell? ⟨b, off + i * 4 + 3, none⟩ = some (.int .i64 (S.looks.getD i zLk).ct.2)) ∧ okV (S.looks.getD i zLk).ct ∧ VRw w1 (.slice ua (S.looks.getD i zLk).tu.length uc) (S.looks.getD i zLk).tu ∧ VRw w1 (.slice va (S.looks.getD i zLk).ta.length vc) (S.looks.getD i zLk).ta) := fun i hi => by
            obtain ⟨b, off, e, u, u', d0, d1, d2, d3, d4, d5, d6⟩ := HRB.out.2.2.2.2.cells i hi
            obtain ⟨ua, uc, rfl⟩ := d5.shape
            obtain ⟨va, vc, rfl⟩ := d6.shape
            exact ⟨b, off, ua, uc, va, vc, e, fun wq h => ⟨cell_on h d0, cell_on h d1, cell_on h d2, cell_on h d3⟩, d4, d5, d6⟩
          go_wp2_with fail
          clear s0 s1 s2 s3 s4 s5 s6 s7
          go_loopw [3, 11] (fun v7 vi wz => ∃ i : Nat, i ≤ S.looks.length ∧ vi = .int .i64 (i : Int) ∧ Hid (RX w1 wz v7 (((hdW S ++ S.rules.flatMap ruW) ++ S.perms.flatMap pmW) ++ (S.looks.take i).flatMap lkW))) (fun _ vi _ => S.looks.length - (intOf vi).toNat)
          case atStart => exact ⟨0, Nat.zero_le _, rfl, Lib.hid (by rw [HZ4.out]; exact HXwq.out)⟩
          case round =>
            rename World => wz
            obtain ⟨v7, hv7⟩ : ∃ v7, v7 = u3 := ⟨_, rfl⟩
            subst hv7
            obtain ⟨i, hi, rfl, HXwz⟩ := hrel
            clear HXwq
            obtain ⟨s0, s1, s2, s3, s4, s5, s6, s7⟩ := HSY.out wz HXwz.out.1
            by_cases hlt : i < S.looks.length
            · have hlt' : (i : Int) < ((S.looks.length : Nat) : Int) := by omega
              obtain ⟨b, off, ua, uc, va, vc, rfl, hc, hct, ht1, ht2⟩ := HLK.out i hlt
              obtain ⟨c0, c1, c2, c3⟩ := hc wz HXwz.out.1
              have HS := Lib.hid (HS4.out i hlt)
              have hl1 := HL4.out i hi
              obtain ⟨q1, q2, q3, q4⟩ := lkB_parts (HLKB.out _ (mem_getD zLk S.looks i hlt))
              obtain ⟨p, hp⟩ : ∃ p, p = S.looks.getD i zLk := ⟨_, rfl⟩
              obtain ⟨L1, hL1⟩ : ∃ L1, L1 = ((hdW S ++ S.rules.flatMap ruW) ++ S.perms.flatMap pmW) ++ (S.looks.take i).flatMap lkW := ⟨_, rfl⟩
              rw [← hp] at c0 c1 c2 c3 ht1 ht2 HS q1 q2 q3 q4 hct
              rw [← hL1] at HS hl1 HXwz
              clear hp hL1 hc
              obtain ⟨tu, ta, ct⟩ := p
              obtain ⟨xk, xi⟩ := ct
              simp only at c0 c1 c2 c3 ht1 ht2 q1 q2 q3 q4 hct
              have hl1' : L1.length ≤ 80000 := by omega
              obtain ⟨t1, t2, t3⟩ := tuB_parts q2
              obtain ⟨t4, t5, t6⟩ := tuB_parts q3
              have HP1 := Lib.hid (has_pos t3 ht1.1)
              have HP2 := Lib.hid (has_pos t6 ht2.1)
              have HP3 : Hid (∀ v ∈ [((xk, xi) : Vr)], posV v) := Lib.hid (has_pos (t := [(xk, xi)]) (ks := [1]) (S := S) (by simpa using q4) (by simpa using hct))
              obtain ⟨hx1, hx2⟩ := HP3.out (xk, xi) (by simp)
              simp only at hx1 hx2
              have hct2 := hct
              unfold okV at hct2
              simp only at hct2
              obtain ⟨kk, rfl⟩ : ∃ kk : Nat, xk = (kk : Int) := ⟨xk.toNat, by omega⟩
              obtain ⟨ki, rfl⟩ : ∃ ki : Nat, xi = (ki : Int) := ⟨xi.toNat, by omega⟩
              have HT1a := Lib.hid ht1
              have HT2a := Lib.hid ht2
              have HCT := Lib.hid hct
              have HSR : Hid ((((L1 ++ [tu.length]) ++ vsW tu) ++ vsW ta) ++ vsW [((kk : Int), (ki : Int))] = ((hdW S ++ S.rules.flatMap ruW) ++ S.perms.flatMap pmW) ++ (S.looks.take (i + 1)).flatMap lkW) := Lib.hid (by rw [← HS.out]; unfold lkW; simp [List.append_assoc, vsW])
              have HB1 := Lib.hid (vsW_len tu)
              have HB2 := Lib.hid (vsW_len ta)
              have hkk : kk ≤ 255 := by omega
              have hki : ki ≤ 9223372036854775807 := by omega
              clear q2 q3 q4 t3 t6 ht1 ht2 hct hct2 HS hl1 hx1 hx2
              obtain ⟨tn, htn⟩ : ∃ tn, tn = tu.length := ⟨_, rfl⟩
              obtain ⟨sn, hsn⟩ : ∃ sn, sn = ta.length := ⟨_, rfl⟩
              rw [← htn] at c0 HSR t2 HB1
              rw [← hsn] at c1 t5 HB2
              have HTN := Lib.hid htn; have HSN := Lib.hid hsn
              clear htn hsn q1 t1 t4
              go_upto_region 31 with fail
              obtain ⟨u, hu⟩ : ∃ u, u = wz.alloc (.cells #[.slice ua tn uc, .slice va sn vc, .int .u8 ((kk : Nat) : Int), .int .i64 ((ki : Nat) : Int)] 63) := ⟨_, rfl⟩
              obtain ⟨X, hX⟩ : ∃ X, X = wz.heap.size := ⟨_, rfl⟩
              rw [← hu, ← hX]
              have HBX : Hid (Bk u X [.slice ua tn uc, .slice va sn vc, .int .u8 ((kk : Nat) : Int), .int .i64 ((ki : Nat) : Int)]) := by rw [hu, hX]; exact Lib.hid (Bk.new wz #[.slice ua tn uc, .slice va sn vc, .int .u8 ((kk : Nat) : Int), .int .i64 ((ki : Nat) : Int)] _ (by decide))
              have HXu : Hid (RX w1 u v7 (L1)) := by rw [hu]; exact Lib.hid (HXwz.out.on ((On.refl HXwz.out.1.tab).alloc _))
              clear hu hX
              obtain ⟨v4, w4, hrun, hX2, hK2⟩ := HXu.out.step [tn] #[.int .u64 ((tn : Nat) : Int)] rfl (by simp only [List.length_cons, List.length_nil]; omega)
              have HR4 := Lib.hid hrun
              have HX4 := Lib.hid hX2
              have HK4 := Lib.hid hK2
              clear hrun hX2 hK2
              have HB4 := Lib.hid (HBX.out.kpn HK4.out)
              have x0 := HBX.out.1.2.1 0 _ rfl
              clear c0 c1 c2 c3 s0 s1 s2 s3 s4 s5 s6 s7 HK4 HXwz
              have y0 := HB4.out.1.2.1 0 _ rfl
              have HC5 : Hid (Calls Tryd.prog 65 #[v4, .slice ua tn uc] w4 fun e w' => (∃ v', e = .returned v' ∧ RX w1 w' v' ((L1 ++ [tn]) ++ vsW tu)) ∧ KpN w4 w') := by
                have h := rvars_any w1 (L1 ++ [tn]) v4 tu ua uc w4 HX4.out (fun wq ho _ => HT1a.out.on ho) HP1.out (by rw [List.length_append, ← HTN.out]; simp only [List.length_cons, List.length_nil]; omega)
                rw [← HTN.out] at h; exact Lib.hid h
              go_wp2_with (first
                | (at_builtin; refine wp_appendJ rfl (.tmp 164) (.tmp 169) _ _ rfl _ _ _ rfl rfl HR4.out ?_)
                | (go_at_call 65; (with_reducible refine HC5.out.mono ?_); rintro e w5 ⟨⟨v5, rfl, hX5⟩, hK5⟩; refine Hid.out ?_))
              refine Lib.hid ?_
              have HX5 := Lib.hid hX5
              have HB5 := Lib.hid (HB4.out.kpn hK5)
              clear hX5 hK5 HC5 HX4 HB4 x0 y0 HBX HXu
              have y1 := HB5.out.1.2.1 1 _ rfl
              have HC6 : Hid (Calls Tryd.prog 65 #[v5, .slice va sn vc] w5 fun e w' => (∃ v', e = .returned v' ∧ RX w1 w' v' (((L1 ++ [tn]) ++ vsW tu) ++ vsW ta)) ∧ KpN w5 w') := by
                have h := rvars_any w1 ((L1 ++ [tn]) ++ vsW tu) v5 ta va vc w5 HX5.out (fun wq ho _ => HT2a.out.on ho) HP2.out (by have := HB1.out; rw [List.length_append, List.length_append, ← HSN.out]; simp only [List.length_cons, List.length_nil]; omega)
                rw [← HSN.out] at h; exact Lib.hid h
              go_wp2_with (go_at_call 65; (with_reducible refine HC6.out.mono ?_); rintro e w6 ⟨⟨v6, rfl, hX6⟩, hK6⟩; refine Hid.out ?_)
              refine Lib.hid ?_
              have HX6 := Lib.hid hX6
              have HB6 := Lib.hid (HB5.out.kpn hK6)
              clear hX6 hK6 HC6 HX5 HB5 y1
              have y2 := HB6.out.1.2.1 2 _ rfl
              have y3 := HB6.out.1.2.1 3 _ rfl
              have HC7 : Hid (Calls Tryd.prog 65 #[v6, .slice (some ⟨w6.heap.size, 0, none⟩) 1 1] (w6.alloc (.cells #[.int .u8 ((kk : Nat) : Int), .int .i64 ((ki : Nat) : Int)] 56)) fun e w' => (∃ v', e = .returned v' ∧ RX w1 w' v' ((((L1 ++ [tn]) ++ vsW tu) ++ vsW ta) ++ vsW [((kk : Int), (ki : Int))])) ∧ KpN (w6.alloc (.cells #[.int .u8 ((kk : Nat) : Int), .int .i64 ((ki : Nat) : Int)] 56)) w') := by
                have hA := (On.refl HX6.out.1.tab).alloc (.cells #[.int .u8 ((kk : Nat) : Int), .int .i64 ((ki : Nat) : Int)] 56)
                have hZ := Bk.new w6 #[.int .u8 ((kk : Nat) : Int), .int .i64 ((ki : Nat) : Int)] 56 (by decide)
                exact Lib.hid (rvars_any w1 (((L1 ++ [tn]) ++ vsW tu) ++ vsW ta) v6 [((kk : Int), (ki : Int))] (some ⟨w6.heap.size, 0, none⟩) 1 _ (HX6.out.on hA) (fun wq _ hk => vrw_one (hZ.kpn hk).1 HCT.out) HP3.out (by have := HB1.out; have := HB2.out; rw [List.length_append, List.length_append, List.length_append]; simp only [List.length_cons, List.length_nil]; omega))
              go_wp2_with (go_at_call 65; (with_reducible refine HC7.out.mono ?_); rintro e w7 ⟨⟨v8, rfl, hX8⟩, hK8⟩; refine Hid.out ?_)
              refine Lib.hid ?_
              rw [HSR.out] at hX8
              have HX8 := Lib.hid hX8
              clear hX8 hK8 HC7 HX6 HB6 y2 y3
              go_wp2
              go_roundw
              case rel => exact ⟨i + 1, by omega, by simp, HX8⟩
              case measure => simp [intOf]; omega
            · obtain rfl : S.looks.length = i := by omega
              rw [HA4.out] at HXwz
              have HNR := Lib.hid (own_nr HXwz.out.2 HUU.out (by have := HL4.out S.looks.length (Nat.le_refl _); rw [HA4.out] at this; omega))
              have HOE := Lib.hid (HO0.out.trans (HO1.out.trans HXwz.out.1))
              go_wp2
              go_ret
              exact ⟨⟨_, rfl, HNR.out⟩, HOE.out⟩
theorem rwords13_any (S : Sy) (a1 a2 a3 a4 : Option Addr) (k1 k2 k3 k4 : Nat) (w : World) (hT : Tab w) (hR : SyR w ⟨a1, a2, a3, a4, k1, k2, k3, k4⟩ S) :
    Calls Tryd.prog 20 #[syA S ⟨a1, a2, a3, a4, k1, k2, k3, k4⟩] w fun e w' => (∃ v, e = .returned v ∧ NR w' v (wordsS S)) ∧ On w w' := by
  unfold wordsS
  by_cases hv : valSy S = true
  · rw [if_pos hv]; exact rwords13_yes S a1 a2 a3 a4 k1 k2 k3 k4 w hT hR hv
  · rw [if_neg hv]
    exact (rwords13_no S _ w hT hR (by simpa using hv)).mono fun e w' ⟨he, ho⟩ => ⟨⟨_, he, NR.nil w'⟩, ho⟩
end Go.Proofs.YtbgljelpldnldaaDoor

/- SystemValid: the walk. -/
namespace Go.Proofs.YtbgljelpldnldaaDoor
open Go.RowKit Go.Lib
set_option linter.unusedVariables false

set_option maxHeartbeats 8000000 in
set_option maxRecDepth 100000 in
theorem svalid_any (S : Sy) (a1 a2 a3 a4 : Option Addr) (k1 k2 k3 k4 : Nat) (w : World) (hT : Tab w) (hR : SyR w ⟨a1, a2, a3, a4, k1, k2, k3, k4⟩ S) :
    Calls Tryd.prog 3 #[syA S ⟨a1, a2, a3, a4, k1, k2, k3, k4⟩] w fun e w' => e = .returned (.bool true) ∧ On w w' := by
  obtain ⟨W0, hW0⟩ : ∃ W0, W0 = w.alloc (syO S ⟨a1, a2, a3, a4, k1, k2, k3, k4⟩) := ⟨_, rfl⟩
  have hO0 : On w W0 := by rw [hW0]; exact (On.refl hT).alloc _
  obtain ⟨Q, hQ⟩ : ∃ Q, Q = w.heap.size := ⟨_, rfl⟩
  have HB0 : Hid (VB Q W0 (syL S ⟨a1, a2, a3, a4, k1, k2, k3, k4⟩)) := by rw [hW0, hQ]; exact Lib.hid (vb_newS S _ w)
  have HSY : Hid (∀ wq, On W0 wq → _) := fun wq h => sy_cells (HB0.out.on h)
  have HOK : Hid (On W0 W0) := On.refl hO0.tab
  have HSM : Hid (∀ wq, On W0 wq → Calls Tryd.prog 12 #[syA S ⟨a1, a2, a3, a4, k1, k2, k3, k4⟩] wq fun e w' => (∃ b : Bool, e = .returned (.bool b)) ∧ On W0 w') := fun wq h => (small_any S a1 a2 a3 a4 k1 k2 k3 k4 wq h.tab (hR.on (hO0.trans h))).mono fun e w' ⟨he, ho⟩ => ⟨he, h.trans ho⟩
  have HLV : Hid (∀ wq, On W0 wq → Calls Tryd.prog 13 #[] wq fun e w' => e = .returned (.bool true) ∧ On W0 w') := fun wq h => (live_any wq h.tab).mono fun e w' ⟨he, ho⟩ => ⟨he, h.trans ho⟩
  have HV1 : Hid (∀ wq, On W0 wq → Calls Tryd.prog 14 #[syA S ⟨a1, a2, a3, a4, k1, k2, k3, k4⟩] wq fun e w' => e = .returned (.bool (valSy S)) ∧ On W0 w') := fun wq h => (valid13_any S _ wq h.tab (hR.on (hO0.trans h))).mono fun e w' ⟨he, ho⟩ => ⟨he, h.trans ho⟩
  have HV2 : Hid (∀ wq, On W0 wq → Calls Tryd.prog 15 #[syA S ⟨a1, a2, a3, a4, k1, k2, k3, k4⟩] wq fun e w' => e = .returned (.bool (valSy S)) ∧ On W0 w') := fun wq h => (rvalid13_any S _ wq h.tab (hR.on (hO0.trans h))).mono fun e w' ⟨he, ho⟩ => ⟨he, h.trans ho⟩
  have HD1 : Hid (∀ wq, On W0 wq → Calls Tryd.prog 16 #[syA S ⟨a1, a2, a3, a4, k1, k2, k3, k4⟩] wq fun e w' => e = .returned (.int .i64 ((degSy S : Nat) : Int)) ∧ On W0 w') := fun wq h => (degree13_any S a1 a2 a3 a4 k1 k2 k3 k4 wq h.tab (hR.on (hO0.trans h))).mono fun e w' ⟨he, ho⟩ => ⟨he, h.trans ho⟩
  have HD2 : Hid (∀ wq, On W0 wq → Calls Tryd.prog 17 #[syA S ⟨a1, a2, a3, a4, k1, k2, k3, k4⟩] wq fun e w' => e = .returned (.int .i64 ((degSy S : Nat) : Int)) ∧ On W0 w') := fun wq h => (rdegree13_any S a1 a2 a3 a4 k1 k2 k3 k4 wq h.tab (hR.on (hO0.trans h))).mono fun e w' ⟨he, ho⟩ => ⟨he, h.trans ho⟩
  have HW1c : Hid (∀ wq, On W0 wq → Calls Tryd.prog 19 #[syA S ⟨a1, a2, a3, a4, k1, k2, k3, k4⟩] wq fun e w' => (∃ ua uc, e = .returned (.slice ua (wordsS S).length uc) ∧ NR w' (.slice ua (wordsS S).length uc) (wordsS S)) ∧ On W0 w') := fun wq h => (words13_any S a1 a2 a3 a4 k1 k2 k3 k4 wq h.tab (hR.on (hO0.trans h))).mono fun e w' ⟨⟨v, he, hn⟩, ho⟩ => by
    obtain ⟨ua, uc, rfl⟩ := hn.1.shape
    exact ⟨⟨ua, uc, he, hn⟩, h.trans ho⟩
  have HW2c : Hid (∀ wq, On W0 wq → Calls Tryd.prog 20 #[syA S ⟨a1, a2, a3, a4, k1, k2, k3, k4⟩] wq fun e w' => (∃ ua uc, e = .returned (.slice ua (wordsS S).length uc) ∧ NR w' (.slice ua (wordsS S).length uc) (wordsS S)) ∧ On wq w') := fun wq h => (rwords13_any S a1 a2 a3 a4 k1 k2 k3 k4 wq h.tab (hR.on (hO0.trans h))).mono fun e w' ⟨⟨v, he, hn⟩, ho⟩ => by
    obtain ⟨ua, uc, rfl⟩ := hn.1.shape
    exact ⟨⟨ua, uc, he, hn⟩, ho⟩
  have HW0 := Lib.hid hW0; have HQ := Lib.hid hQ; have HO0 := Lib.hid hO0
  generalize valSy S = B at *
  generalize degSy S = D at *
  generalize wordsS S = WD at *
  have HBB : Hid ((B == B) = true) := Lib.hid (by simp)
  have HDD : Hid ((((D : Nat) : Int) == ((D : Nat) : Int)) = true) := Lib.hid (by simp)
  clear hT hR hW0 hO0 hQ HB0
  go_enter Tryd.func3, Tryd.ntmps3
  go_upto_region 1 with fail
  rw [← HW0.out, ← HQ.out]
  obtain ⟨s0, s1, s2, s3, s4, s5, s6, s7⟩ := HSY.out _ HOK.out
  go_wp2_with (first
    | (go_at_call 12; (with_reducible refine (HSM.out _ HOK.out).mono ?_); rintro e w1 ⟨⟨b, rfl⟩, hO1⟩)
    | (go_at_call 13; (with_reducible refine (HLV.out _ hO1).mono ?_); rintro e w3 ⟨rfl, hO3⟩)
    | fail)
  all_goals first
    | (go_ret; exact ⟨rfl, HO0.out.trans hO3⟩)
    | skip
  have hO2 := hO1.drew
  obtain ⟨V0, hV0⟩ : ∃ V0, V0 = w1.drew := ⟨_, rfl⟩
  rw [← hV0] at hO2
  clear s0 s1 s2 s3 s4 s5 s6 s7
  refine region_head_tail (S := fun wx => On W0 wx) 22 (by kernel_rfl) (by kernel_rfl) ?_
  rw [← hV0]
  clear hV0
  refine HeadG.take (i := 0) (v := syA S ⟨a1, a2, a3, a4, k1, k2, k3, k4⟩) rfl (by kernel_rfl) (by kernel_rfl) (by kernel_rfl) (by kernel_rfl) (by kernel_rfl) (by kernel_rfl) (by kernel_rfl) (fun _ _ _ h => h) (Or.inl ⟨by rfl, ?hyt0⟩) hO2 ?hrt0
  case hyt0 => (intro w' hSw; obtain ⟨s0, s1, s2, s3, s4, s5, s6, s7⟩ := HSY.out w' hSw; go_simp; try with_reducible rfl)
  try simp only [Act.put, List.setIfInBounds_toArray, List.set_cons_zero, List.set_cons_succ, List.getElem_toArray, List.getElem_cons_zero, List.getElem_cons_succ]
  refine HeadG.take (i := 2) (v := syA S ⟨a1, a2, a3, a4, k1, k2, k3, k4⟩) rfl (by kernel_rfl) (by kernel_rfl) (by kernel_rfl) (by kernel_rfl) (by kernel_rfl) (by kernel_rfl) (by kernel_rfl) (fun _ _ _ h => h) (Or.inl ⟨by rfl, ?hyt2⟩) hO2 ?hrt2
  case hyt2 => (intro w' hSw; obtain ⟨s0, s1, s2, s3, s4, s5, s6, s7⟩ := HSY.out w' hSw; go_simp; try with_reducible rfl)
  try simp only [Act.put, List.setIfInBounds_toArray, List.set_cons_zero, List.set_cons_succ, List.getElem_toArray, List.getElem_cons_zero, List.getElem_cons_succ]
  refine HeadG.one (i := 1) rfl (by kernel_rfl) (by kernel_rfl) (fun K9 hK9 => ?_)
  go_simp
  go_at_call 14
  with_reducible refine (HV1.out _ hO2).mono ?_
  rintro e wa ⟨rfl, hOa⟩
  refine hK9.out _ _ hOa ?_
  clear hK9 K9
  try simp only [Act.put, List.setIfInBounds_toArray, List.set_cons_zero, List.set_cons_succ, List.getElem_toArray, List.getElem_cons_zero, List.getElem_cons_succ]
  refine HeadG.one (i := 3) rfl (by kernel_rfl) (by kernel_rfl) (fun K9 hK9 => ?_)
  go_simp
  go_at_call 15
  with_reducible refine (HV2.out _ hOa).mono ?_
  rintro e wb ⟨rfl, hOb⟩
  refine hK9.out _ _ hOb ?_
  clear hK9 K9
  try simp only [Act.put, List.setIfInBounds_toArray, List.set_cons_zero, List.set_cons_succ, List.getElem_toArray, List.getElem_cons_zero, List.getElem_cons_succ]
  refine HeadG.take (i := 4) (v := .bool true) rfl (by kernel_rfl) (by kernel_rfl) (by kernel_rfl) (by kernel_rfl) (by kernel_rfl) (by kernel_rfl) (by kernel_rfl) (fun _ _ _ h => h) (Or.inl ⟨by rfl, ?hyt4⟩) hOb ?hrt4
  case hyt4 => (intro w' hSw; have h1 := HBB.out; go_simp; (try (with_reducible rfl)); (try simp [h1]))
  try simp only [Act.put, List.setIfInBounds_toArray, List.set_cons_zero, List.set_cons_succ, List.getElem_toArray, List.getElem_cons_zero, List.getElem_cons_succ]
  refine HeadG.take (i := 5) (v := .bool true) rfl (by kernel_rfl) (by kernel_rfl) (by kernel_rfl) (by kernel_rfl) (by kernel_rfl) (by kernel_rfl) (by kernel_rfl) (fun _ _ _ h => h) (Or.inl ⟨by rfl, ?hyt5⟩) hOb ?hrt5
  case hyt5 => (intro w' hSw; go_simp; try with_reducible rfl)
  try simp only [Act.put, List.setIfInBounds_toArray, List.set_cons_zero, List.set_cons_succ, List.getElem_toArray, List.getElem_cons_zero, List.getElem_cons_succ]
  refine HeadG.take (i := 6) (v := syA S ⟨a1, a2, a3, a4, k1, k2, k3, k4⟩) rfl (by kernel_rfl) (by kernel_rfl) (by kernel_rfl) (by kernel_rfl) (by kernel_rfl) (by kernel_rfl) (by kernel_rfl) (fun _ _ _ h => h) (Or.inl ⟨by rfl, ?hyt6⟩) hOb ?hrt6
  case hyt6 => (intro w' hSw; obtain ⟨s0, s1, s2, s3, s4, s5, s6, s7⟩ := HSY.out w' hSw; go_simp; try with_reducible rfl)
  try simp only [Act.put, List.setIfInBounds_toArray, List.set_cons_zero, List.set_cons_succ, List.getElem_toArray, List.getElem_cons_zero, List.getElem_cons_succ]
  refine HeadG.take (i := 8) (v := syA S ⟨a1, a2, a3, a4, k1, k2, k3, k4⟩) rfl (by kernel_rfl) (by kernel_rfl) (by kernel_rfl) (by kernel_rfl) (by kernel_rfl) (by kernel_rfl) (by kernel_rfl) (fun _ _ _ h => h) (Or.inl ⟨by rfl, ?hyt8⟩) hOb ?hrt8
  case hyt8 => (intro w' hSw; obtain ⟨s0, s1, s2, s3, s4, s5, s6, s7⟩ := HSY.out w' hSw; go_simp; try with_reducible rfl)
  try simp only [Act.put, List.setIfInBounds_toArray, List.set_cons_zero, List.set_cons_succ, List.getElem_toArray, List.getElem_cons_zero, List.getElem_cons_succ]
  refine HeadG.one (i := 7) rfl (by kernel_rfl) (by kernel_rfl) (fun K9 hK9 => ?_)
  go_simp
  go_at_call 16
  with_reducible refine (HD1.out _ hOb).mono ?_
  rintro e wc ⟨rfl, hOc⟩
  refine hK9.out _ _ hOc ?_
  clear hK9 K9
  try simp only [Act.put, List.setIfInBounds_toArray, List.set_cons_zero, List.set_cons_succ, List.getElem_toArray, List.getElem_cons_zero, List.getElem_cons_succ]
  refine HeadG.one (i := 9) rfl (by kernel_rfl) (by kernel_rfl) (fun K9 hK9 => ?_)
  go_simp
  go_at_call 17
  with_reducible refine (HD2.out _ hOc).mono ?_
  rintro e wd ⟨rfl, hOd⟩
  refine hK9.out _ _ hOd ?_
  clear hK9 K9
  try simp only [Act.put, List.setIfInBounds_toArray, List.set_cons_zero, List.set_cons_succ, List.getElem_toArray, List.getElem_cons_zero, List.getElem_cons_succ]
  refine HeadG.take (i := 10) (v := .bool true) rfl (by kernel_rfl) (by kernel_rfl) (by kernel_rfl) (by kernel_rfl) (by kernel_rfl) (by kernel_rfl) (by kernel_rfl) (fun _ _ _ h => h) (Or.inl ⟨by rfl, ?hyt10⟩) hOd ?hrt10
  case hyt10 => (intro w' hSw; have h1 := HDD.out; go_simp; (try (with_reducible rfl)); (try simp [h1]))
  try simp only [Act.put, List.setIfInBounds_toArray, List.set_cons_zero, List.set_cons_succ, List.getElem_toArray, List.getElem_cons_zero, List.getElem_cons_succ]
  refine HeadG.take (i := 11) (v := .bool true) rfl (by kernel_rfl) (by kernel_rfl) (by kernel_rfl) (by kernel_rfl) (by kernel_rfl) (by kernel_rfl) (by kernel_rfl) (fun _ _ _ h => h) (Or.inl ⟨by rfl, ?hyt11⟩) hOd ?hrt11
  case hyt11 => (intro w' hSw; go_simp; try with_reducible rfl)
  try simp only [Act.put, List.setIfInBounds_toArray, List.set_cons_zero, List.set_cons_succ, List.getElem_toArray, List.getElem_cons_zero, List.getElem_cons_succ]
  refine HeadG.take (i := 12) (v := .bool true) rfl (by kernel_rfl) (by kernel_rfl) (by kernel_rfl) (by kernel_rfl) (by kernel_rfl) (by kernel_rfl) (by kernel_rfl) (fun _ _ _ h => h) (Or.inl ⟨by rfl, ?hyt12⟩) hOd ?hrt12
  case hyt12 => (intro w' hSw; go_simp; try with_reducible rfl)
  try simp only [Act.put, List.setIfInBounds_toArray, List.set_cons_zero, List.set_cons_succ, List.getElem_toArray, List.getElem_cons_zero, List.getElem_cons_succ]
  refine HeadG.take (i := 13) (v := syA S ⟨a1, a2, a3, a4, k1, k2, k3, k4⟩) rfl (by kernel_rfl) (by kernel_rfl) (by kernel_rfl) (by kernel_rfl) (by kernel_rfl) (by kernel_rfl) (by kernel_rfl) (fun _ _ _ h => h) (Or.inl ⟨by rfl, ?hyt13⟩) hOd ?hrt13
  case hyt13 => (intro w' hSw; obtain ⟨s0, s1, s2, s3, s4, s5, s6, s7⟩ := HSY.out w' hSw; go_simp; try with_reducible rfl)
  try simp only [Act.put, List.setIfInBounds_toArray, List.set_cons_zero, List.set_cons_succ, List.getElem_toArray, List.getElem_cons_zero, List.getElem_cons_succ]
  refine HeadG.take (i := 15) (v := syA S ⟨a1, a2, a3, a4, k1, k2, k3, k4⟩) rfl (by kernel_rfl) (by kernel_rfl) (by kernel_rfl) (by kernel_rfl) (by kernel_rfl) (by kernel_rfl) (by kernel_rfl) (fun _ _ _ h => h) (Or.inl ⟨by rfl, ?hyt15⟩) hOd ?hrt15
  case hyt15 => (intro w' hSw; obtain ⟨s0, s1, s2, s3, s4, s5, s6, s7⟩ := HSY.out w' hSw; go_simp; try with_reducible rfl)
  try simp only [Act.put, List.setIfInBounds_toArray, List.set_cons_zero, List.set_cons_succ, List.getElem_toArray, List.getElem_cons_zero, List.getElem_cons_succ]
  refine HeadG.one (i := 14) rfl (by kernel_rfl) (by kernel_rfl) (fun K9 hK9 => ?_)
  go_simp
  go_at_call 19
  with_reducible refine (HW1c.out _ hOd).mono ?_
  rintro e we ⟨⟨ua, uc, rfl, hN1⟩, hOe⟩
  refine hK9.out _ _ hOe ?_
  clear hK9 K9
  try simp only [Act.put, List.setIfInBounds_toArray, List.set_cons_zero, List.set_cons_succ, List.getElem_toArray, List.getElem_cons_zero, List.getElem_cons_succ]
  refine HeadG.one (i := 16) rfl (by kernel_rfl) (by kernel_rfl) (fun K9 hK9 => ?_)
  go_simp
  go_at_call 20
  with_reducible refine (HW2c.out _ hOe).mono ?_
  rintro e wf ⟨⟨va, vc, rfl, hN2⟩, hOf⟩
  refine hK9.out _ _ (hOe.trans hOf) ?_
  clear hK9 K9
  try simp only [Act.put, List.setIfInBounds_toArray, List.set_cons_zero, List.set_cons_succ, List.getElem_toArray, List.getElem_cons_zero, List.getElem_cons_succ]
  have HEQ := Lib.hid (requal13_any WD WD _ _ wf (hN1.1.on hOf) hN2.1)
  have HFF := Lib.hid (hOe.trans hOf)
  refine HeadG.one (i := 17) rfl (by kernel_rfl) (by kernel_rfl) (fun K9 hK9 => ?_)
  go_simp
  go_at_call 18
  with_reducible refine HEQ.out.mono ?_
  rintro e wg ⟨rfl, n9, rfl⟩
  have hOg : On W0 (wf.drewN n9) := HFF.out.drewN n9
  refine hK9.out _ _ hOg ?_
  clear hK9 K9
  try simp only [Act.put, List.setIfInBounds_toArray, List.set_cons_zero, List.set_cons_succ, List.getElem_toArray, List.getElem_cons_zero, List.getElem_cons_succ]
  refine HeadG.take (i := 18) (v := .bool true) rfl (by kernel_rfl) (by kernel_rfl) (by kernel_rfl) (by kernel_rfl) (by kernel_rfl) (by kernel_rfl) (by kernel_rfl) (fun _ _ _ h => h) (Or.inl ⟨by rfl, ?hyt18⟩) hOg ?hrt18
  case hyt18 => (intro w' hSw; go_simp; (try (with_reducible rfl)); (try simp))
  try simp only [Act.put, List.setIfInBounds_toArray, List.set_cons_zero, List.set_cons_succ, List.getElem_toArray, List.getElem_cons_zero, List.getElem_cons_succ]
  refine HeadG.take (i := 19) (v := .bool true) rfl (by kernel_rfl) (by kernel_rfl) (by kernel_rfl) (by kernel_rfl) (by kernel_rfl) (by kernel_rfl) (by kernel_rfl) (fun _ _ _ h => h) (Or.inl ⟨by rfl, ?hyt19⟩) hOg ?hrt19
  case hyt19 => (intro w' hSw; go_simp; (try (with_reducible rfl)); (try simp))
  try simp only [Act.put, List.setIfInBounds_toArray, List.set_cons_zero, List.set_cons_succ, List.getElem_toArray, List.getElem_cons_zero, List.getElem_cons_succ]
  refine HeadG.one (i := 20) rfl (by kernel_rfl) (by kernel_rfl) (fun K9 hK9 => ?_)
  go_simp
  go_at_call 13
  with_reducible refine (HLV.out _ hOg).mono ?_
  rintro e wh ⟨rfl, hOh⟩
  refine hK9.out _ _ hOh ?_
  clear hK9 K9
  try simp only [Act.put, List.setIfInBounds_toArray, List.set_cons_zero, List.set_cons_succ, List.getElem_toArray, List.getElem_cons_zero, List.getElem_cons_succ]
  refine HeadG.take (i := 21) (v := .bool true) rfl (by kernel_rfl) (by kernel_rfl) (by kernel_rfl) (by kernel_rfl) (by kernel_rfl) (by kernel_rfl) (by kernel_rfl) (fun _ _ _ h => h) (Or.inl ⟨by rfl, ?hyt21⟩) hOh ?hrt21
  case hyt21 => (intro w' hSw; go_simp; (try (with_reducible rfl)); (try simp))
  try simp only [Act.put, List.setIfInBounds_toArray, List.set_cons_zero, List.set_cons_succ, List.getElem_toArray, List.getElem_cons_zero, List.getElem_cons_succ]
  refine HeadG.last (i := 22) rfl (by kernel_rfl) (by kernel_rfl) (by kernel_rfl) (fun K9 hK9 => ?_)
  go_simp
  refine hK9.out _ _ ?_
  clear hK9 K9
  try simp only [Act.put, List.setIfInBounds_toArray, List.set_cons_zero, List.set_cons_succ, List.getElem_toArray, List.getElem_cons_zero, List.getElem_cons_succ]
  go_wp2_with fail
  go_ret
  exact ⟨by simp, HO0.out.trans hOh⟩
end Go.Proofs.YtbgljelpldnldaaDoor
