/- Package mono: key. -/
import Derived.Test.YtnmdfldgpbfbbaaGreatDoorKzm08
import Derived.Test.YtnmdfldgpbfbbaaGreatDoorKzm03
import Derived.Lib.AppendIntMem
import Derived.Lib.BufferRead
import Derived.Lib.Slices
import Derived.Laws.IdiomStrings
import Derived.WalkKit
import Derived.BigCall
set_option linter.unusedSimpArgs false
set_option linter.unusedVariables false
/- Package mono: key. -/
namespace Go.Proofs.YtnmdfldgpbfbbaaGreatDoor
open Go.Shelf Go.RowKit Go.Lib Go.Sort
set_option linter.unusedVariables false

/-- The library's table of powers of ten. -/
def Pw (w : World) : Prop := Lib.TabIs Tryz.prog w "internal/strconv.uint64pow10" .u64 Lib.pow10Tab
abbrev PwB (B : Nat) (w : World) : Prop := Lib.TabBelow Tryz.prog B w "internal/strconv.uint64pow10" .u64 Lib.pow10Tab
theorem Pw.below {w : World} (h : Pw w) : PwB w.heap.size w := Lib.tabBelow_of_tabIs h
theorem Pw.on {W w : World} (h : Pw W) (k : On W w) : Pw w := h.below w k.2
theorem Pw.belowOn {W w : World} (h : Pw W) (k : On W w) : PwB W.heap.size w := h.below.on k.2

theorem apu_any (B n u : Nat) (hu64 : u < 18446744073709551616) (sv : Value) (xs : List Value) (w : World) (hown : w.ownsRow B 5 1 sv n xs) (hBw : B ≤ w.heap.size) (hlim : n + 20 ≤ 140737488355328) (htab : Pw w) :
    Calls Tryz.prog 62 #[sv, .int .u64 u, .int .i64 10] w fun e w' => ∃ v', e = .returned v' ∧ w'.ownsRow B 5 1 v' (n + (Lib.decDigits u).length) (xs ++ Lib.byteCells (Lib.decDigits u)) ∧ Below B w w' ∧ Lib.OthersKept 5 none w w' := by
  have HC := Lib.hid (Tryz.internal_strconv_AppendUint_10 B n u hu64 sv xs w hown hBw hlim htab)
  clear hown htab
  go_enter Tryz.func62, Tryz.ntmps62
  go_wp2_with (go_at_call 85; refine HC.out.mono ?_; rintro e w' ⟨v', rfl, h1, h2, h3⟩)
  go_ret
  exact ⟨v', rfl, h1, h2, h3⟩
theorem api_any (B n : Nat) (i : Int) (h0 : -9223372036854775808 ≤ i) (h1 : i ≤ 9223372036854775807) (sv : Value) (xs : List Value) (w : World) (hown : w.ownsRow B 5 1 sv n xs) (hBw : B ≤ w.heap.size) (hlim : n + 21 ≤ 140737488355328) (htab : PwB B w) :
    Calls Tryz.prog 63 #[sv, .int .i64 i, .int .i64 10] w fun e w' => ∃ v', e = .returned v' ∧ w'.ownsRow B 5 1 v' (n + (Lib.itoa i).length) (xs ++ Lib.byteCells (Lib.itoa i)) ∧ Below B w w' ∧ Lib.OthersKept 5 none w w' := by
  have HC := Lib.hid (Tryz.internal_strconv_AppendInt_10 B n i h0 h1 sv xs w hown hBw hlim htab)
  clear hown htab
  go_enter Tryz.func63, Tryz.ntmps63
  go_wp2_with (go_at_call 86; refine HC.out.mono ?_; rintro e w' ⟨v', rfl, h1, h2, h3⟩)
  go_ret
  exact ⟨v', rfl, h1, h2, h3⟩
theorem info_u8 : (Tryz.prog.info? 5).map (fun i => (i.zero, i.size, i.bytes)) = some (some (.int .u8 0), 1, 1) := by kernel_rfl
/-- append(b, c) of one byte. -/
theorem append_byte {B : Nat} {w : World} {v : Value} {n : Nat} {xs : List Value} (hown : w.ownsRow B 5 1 v n xs) (hB : B ≤ w.heap.size) (hn : n ≤ 100000000000) (c : Int) (C : Nat) (hC : C = w.heap.size) :
    ∃ v' w', (∀ ty, (Builtin.append_ #[57, 57] ty #[v, .slice (some ⟨C, 0, none⟩) 1 1]).run Tryz.prog (w.alloc (.cells #[.int .u8 c] 5)) = .ok v' w') ∧ w'.ownsRow B 5 1 v' (n + 1) (xs ++ [.int .u8 c]) ∧ Below B w w' ∧ Lib.OthersKept 5 none w w' := by
  subst hC
  obtain ⟨i0, hi, hz0, hz1, hz2⟩ := info_parts info_u8
  obtain ⟨v', w', h1, h2, h3, -⟩ := append_cells (P := Tryz.prog) (w.alloc (.cells #[.int .u8 c] 5)) B 57 5 i0 (.int .u8 0) 1 1 Tryz.underlying57 hi hz0 hz1 hz2 rfl (by omega) v n xs (hown.alloc _) (some ⟨w.heap.size, 0, none⟩) 1 1 [.int .u8 c] rfl (fun _ => ⟨_, rfl, cell_one_new w _ _⟩) (by intro u hu; simp at hu; subst hu; rfl) (by unfold maxLen; omega) (by omega) (by simp; omega)
  exact ⟨v', w', h1, h2, ((Below.refl B w).alloc hB _).grown h3 (by simp; omega) (fun k hk => (hown.lt k hk).1), ((Lib.OthersKept.refl _ _ w).alloc _).grown h3 (Lib.ownsRow_kind (hown.alloc _))⟩

set_option maxHeartbeats 2000000 in
theorem key_any (l : List Vr) (v : Value) (w : World) (hT : Tab w) (hP : Pw w) (hR : VRd w v l) (hL : l.length ≤ 1000000) :
    Calls Tryz.prog 43 #[v] w fun e w' => e = .returned (.string ⟨(keyB l).toArray⟩) ∧ On w w' := by
  obtain ⟨a, cap, rfl⟩ := hR.shape
  have HC := Lib.hid hR.cells
  have HOK := Lib.hid hR.ok
  have HKL := Lib.hid (fun k => keyB_len (l.take k) fun x hx => hR.1 x (List.mem_of_mem_take hx))
  have H0 := Lib.hid (On.refl hT)
  have HP := Lib.hid hP
  obtain ⟨n, hn⟩ : ∃ n, l.length = n := ⟨_, rfl⟩
  have HN := Lib.hid hn
  rw [hn] at HC hL ⊢
  clear hR hT hP hn
  go_enter Tryz.func43, Tryz.ntmps43
  go_wp2_with fail
  go_loopw [3, 8] (fun vb vi wr => ∃ k : Nat, k ≤ n ∧ vi = .int .i64 (k : Int) ∧ Hid (wr.ownsRow w.heap.size 5 1 vb (keyB (l.take k)).length (byteCells (keyB (l.take k)))) ∧ Hid (On w wr)) (fun _ vi _ => n - (intOf vi).toNat)
  case atStart => exact ⟨0, Nat.zero_le _, rfl, Lib.hid (World.ownsRow_nil _ _ _ _), H0⟩
  case round =>
    rename World => wr
    obtain ⟨k, hk, rfl, HV, HO⟩ := hrel
    by_cases hlt : k < n
    · obtain ⟨b, off, rfl, c0, c1⟩ := HC.out k hlt
      have c0' := (HO.out.cell (p := ⟨b, off + k * 2, none⟩) (cell_size c0)).trans c0
      have c1' := (HO.out.cell (p := ⟨b, off + k * 2 + 1, none⟩) (cell_size c1)).trans c1
      have hlt' : (k : Int) < (n : Int) := by omega
      have hok := HOK.out k
      have hkl := HKL.out k
      have hkl2 : (keyB (l.take k)).length ≤ 50000000 := by
        have : (l.take k).length ≤ n := by rw [List.length_take]; omega
        omega
      have HS : Hid (keyB (l.take (k + 1)) = keyB (l.take k) ++ (decDigits (l.getD k zV).1.toNat ++ 58 :: (itoa (l.getD k zV).2 ++ [44]))) := by
        have e : l.take (k + 1) = l.take k ++ [l.getD k zV] := by
          rw [List.take_add_one, List.getElem?_eq_getElem (by rw [HN.out]; exact hlt), List.getD_eq_getElem?_getD, List.getElem?_eq_getElem (by rw [HN.out]; exact hlt)]; rfl
        unfold Hid; rw [e, keyB_snoc]
      clear c0 c1 hkl
      generalize l.getD k zV = x at *
      generalize keyB (l.take k) = kb at *
      obtain ⟨xk, xi⟩ := x
      obtain ⟨g1, g2, g3, g4⟩ := hok
      simp only at c0' c1' HS g1 g2 g3 g4
      obtain ⟨xn, rfl⟩ : ∃ xn : Nat, xk = (xn : Int) := ⟨xk.toNat, by omega⟩
      rw [Int.toNat_natCast] at HS
      have hwr : IntKind.u64.wrap (xn : Int) = (xn : Int) := by simp [IntKind.wrap, IntKind.bits, IntKind.signed]; omega
      have HOA := Lib.hid (HO.out.alloc (.cells #[.int .u8 (xn : Int), .int .i64 xi] 39))
      have hb0 : (wr.alloc (.cells #[.int .u8 (xn : Int), .int .i64 xi] 39)).cell? ⟨wr.heap.size, 0, none⟩ = some (.int .u8 (xn : Int)) := by rw [World.cell?_alloc_new]; rfl
      have HBX : Hid ((wr.alloc (.cells #[.int .u8 (xn : Int), .int .i64 xi] 39)).heap[wr.heap.size]? = some (.cells #[.int .u8 (xn : Int), .int .i64 xi] 39)) := heap_alloc_new wr _
      have hsz : w.heap.size ≤ wr.heap.size := HO.out.size
      have HVA := Lib.hid (HV.out.alloc (.cells #[.int .u8 (xn : Int), .int .i64 xi] 39))
      have hszA : (wr.alloc (.cells #[.int .u8 (xn : Int), .int .i64 xi] 39)).heap.size = wr.heap.size + 1 := by simp
      obtain ⟨wa, hwa⟩ : ∃ wa, wa = wr.alloc (.cells #[.int .u8 (xn : Int), .int .i64 xi] 39) := ⟨_, rfl⟩
      rw [← hwa] at HOA hb0 HBX HVA hszA
      have HW := Lib.hid hwa
      clear hwa HV
      go_upto_region 5 with fail
      rw [← HW.out]
      have HC1 := Lib.hid (apu_any w.heap.size kb.length xn (by omega) _ _ wa HVA.out (by omega) (by omega) (HP.out.on HOA.out))
      go_wp2_with (go_at_call 62; refine HC1.out.mono ?_; rintro e w1 ⟨v1, rfl, hown1, hbl1, hok1⟩; refine Hid.out ?_)
      refine Lib.hid ?_
      have hne : ∀ (c : Array Value) (fz : Nat × Nat), Obj.cells #[.int .u8 (xn : Int), .int .i64 xi] 39 ≠ .cells c 5 fz := fun c fz e => by simp at e
      have hd1 : (decDigits xn).length ≤ 20 := by rw [decDigits_length]; exact nDigits_le xn (by omega)
      have HB1 := Lib.hid (hok1 _ _ HBX.out (by simp) hne)
      have HO1 : Hid (On w w1) := ⟨HO.out.1, HOA.out.2.trans hbl1⟩
      have hsz1 := HO1.out.size
      obtain ⟨v2, w2, hrun2, hown2, hbl2, hok2⟩ := append_byte hown1 hsz1 (by omega) 58 w1.heap.size rfl
      have HRUN2 := Lib.hid hrun2
      have HB2 := hok2 _ _ HB1.out (by simp) hne
      have HO2 : Hid (On w w2) := ⟨HO.out.1, HO1.out.2.trans hbl2⟩
      have hb1 : w2.cell? ⟨wr.heap.size, 1, none⟩ = some (.int .i64 xi) := by simp [World.cell?, HB2]
      have hsz2 := HO2.out.size
      have hd2 := itoa_len xi g3 g4
      have HC2 := Lib.hid (api_any w.heap.size _ xi g3 g4 _ _ w2 hown2 hsz2 (by omega) (HP.out.belowOn HO2.out))
      clear hrun2 hown2 hbl2 hok2 hown1 hbl1 hok1 HC1 HB1 HBX HB2 hb0
      go_wp2_with (first | (at_builtin; refine wp_appendJ rfl (.tmp 17) (.tmp 18) _ _ rfl _ _ v2 rfl rfl HRUN2.out ?_) | (go_at_call 63; refine HC2.out.mono ?_; rintro e w3 ⟨v3, rfl, hown3, hbl3, hok3⟩; refine Hid.out ?_))
      refine Lib.hid ?_
      have HO3 : Hid (On w w3) := ⟨HO.out.1, HO2.out.2.trans hbl3⟩
      have hsz3 := HO3.out.size
      obtain ⟨v4, w4, hrun4, hown4, hbl4, -⟩ := append_byte hown3 hsz3 (by omega) 44 w3.heap.size rfl
      have HRUN4 := Lib.hid hrun4
      have HO4 : Hid (On w w4) := ⟨HO.out.1, HO3.out.2.trans hbl4⟩
      have HV4 : Hid (w4.ownsRow w.heap.size 5 1 v4 (keyB (l.take (k + 1))).length (byteCells (keyB (l.take (k + 1))))) := by
        unfold Hid
        have e : byteCells kb ++ byteCells (decDigits xn) ++ [.int .u8 58] ++ byteCells (itoa xi) ++ [.int .u8 44] = byteCells (kb ++ (decDigits xn ++ 58 :: (itoa xi ++ [44]))) := by simp [byteCells]
        have e2 : kb.length + (decDigits xn).length + 1 + (itoa xi).length + 1 = (kb ++ (decDigits xn ++ 58 :: (itoa xi ++ [44]))).length := by simp; omega
        rw [e, e2] at hown4
        rw [HS.out]; exact hown4
      clear hrun4 hown4 hbl4 hown3 hbl3 hok3 HC2 HO3 HO2 HO1
      go_wp2_with (at_builtin; refine wp_appendJ rfl (.tmp 24) (.tmp 25) _ _ rfl _ _ v4 rfl rfl HRUN4.out ?_)
      go_roundw
      case rel => exact ⟨k + 1, by omega, by simp, HV4, HO4⟩
      case measure => simp [intOf]; omega
    · obtain rfl : k = n := by omega
      have HE : Hid (l.take k = l) := by unfold Hid; rw [← HN.out, List.take_length]
      rw [HE.out] at HV
      clear HE HKL HC
      obtain ⟨kb, hkb0⟩ : ∃ kb, kb = keyB l := ⟨_, rfl⟩
      rw [← hkb0] at HV
      have HKB := Lib.hid hkb0
      clear hkb0
      rcases HV.out.2 with ⟨hnil, h0⟩ | ⟨g, cap2, cur, hsl, -, -, -, -, -, -⟩
      · have hkb : kb = [] := List.length_eq_zero_iff.1 h0
        have hcv := run_convert_nil_bytes (P := Tryz.prog) wr 57 9 5 0 Tryz.underlying57 Tryz.underlying5 Tryz.underlying9
        subst hkb
        subst hnil
        clear HV
        go_wp2
        go_ret
        exact ⟨by rw [← HKB.out]; rfl, HO.out⟩
      · have hown := HV.out
        rw [hsl] at hown
        have hcv := run_convert_bytes_back (P := Tryz.prog) wr 57 9 5 ⟨g, 0, none⟩ cap2 kb Tryz.underlying57 Tryz.underlying5 Tryz.underlying9 (fun j hj => hown.cells (g := g) rfl j _ (by simp [Lib.byteCells, hj]))
        subst hsl
        clear HV hown
        go_wp2
        go_ret
        exact ⟨by rw [← HKB.out]; rfl, HO.out⟩
end Go.Proofs.YtnmdfldgpbfbbaaGreatDoor
