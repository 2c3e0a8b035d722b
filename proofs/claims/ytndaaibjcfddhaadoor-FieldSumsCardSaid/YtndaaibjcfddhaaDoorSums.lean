/- The walk of the law FieldSums: it returns true. -/
import Derived.Test.YtndaaibjcfddhaaDoorLists
import Derived.Laws.AppendOwnNone
namespace Go.Proofs.YtndaaibjcfddhaaDoor
open Go.ChangeShapes Go.WideShapes Go.ChangeAt Go.RowKit
set_option linter.unusedVariables false

theorem dotF_le (f : Int) (a b : List Nat) : dotF f a b ≤ 998244353 := sumF_le _ _
theorem invs_get (f : Int) (l : List Nat) (k : Nat) (h : k < l.length) : (invsF f l).getD k 0 = invF f (l.getD k 0) := by
  unfold invsF; rw [List.getD_eq_getElem?_getD, List.getElem?_map, List.getElem?_eq_getElem h, List.getD_eq_getElem?_getD, List.getElem?_eq_getElem h]; rfl
theorem rows_of {w : World} {oa : Option Addr} {ca : Nat} {l : List Nat} (h : Reads w (.slice oa l.length ca) l) (k : Nat) (hk : k < l.length) :
    ∃ b off, oa = some ⟨b, off, none⟩ ∧ w.cell? ⟨b, off + k, none⟩ = some (.int .u64 ((l.getD k 0 : Nat) : Int)) ∧ l.getD k 0 ≤ 18446744073709551615 := by
  obtain ⟨hU, _, ⟨rfl, _⟩ | ⟨b, off, cap, hv, hc⟩⟩ := h
  · simp at hk
  · simp only [Value.slice.injEq, and_true, true_and] at hv
    exact ⟨b, off, hv.1, hc k hk, hU _ (getD_mem l k hk)⟩
theorem src_one (w : World) (y : Nat) : Src (w.alloc (.cells #[.int .u64 (y : Int)] 22)) (.slice (some ⟨w.heap.size, 0, none⟩) 1 1) [y] :=
  .inr ⟨⟨w.heap.size, 0, none⟩, 1, rfl, new_cell w y _⟩

/-- An append of whatever list onto a row of the call's own. -/
theorem wp_append_src {w : World} {ops : Array Oper} {rest : List Oper} {o : Oper} {a : Act} {Q : Exit → Act → World → Prop} (hgd : o.guard = none) (s x : Operand)
    (ho : o.op = .call { callee := .builtin .append, args := #[s, x], argTypes := #[37, 37] }) (B : Nat) (v : Value) (l : List Nat) (hs : a.eval s = v) (hown : Owns B w v l) (u : Value) (m : List Nat) (hx : a.eval x = u) (hsrc : Src w u m)
    (hlen : l.length + m.length ≤ 1000000) (hbase : B ≤ w.heap.size) (hT : Tab w)
    (h : ∀ v' w', Owns B w' v' (l ++ m) → Below B w w' → wpList Tryd.prog ops Q rest (a.put o.dst v') w') : wpList Tryd.prog ops Q (o :: rest) a w := by
  obtain ⟨i0, hi, hz0, hz1, hz2⟩ := info_parts info_u64
  rcases hsrc with ⟨rfl, rfl⟩ | ⟨ad, cap, rfl, hc⟩
  · exact wpList_append_own_none hgd s x 37 ho B 22 i0 1 Tryd.underlying37 hi v l.length (nums l) hs hown hx (h v w (by rw [List.append_nil]; exact hown) (Below.refl _ _))
  · refine wpList_append_own _ hgd s x 37 ho B 22 i0 (.int .u64 0) 1 8 Tryd.underlying37 hi hz0 hz1 hz2 rfl (by decide) v l.length (nums l) hs hown ad m.length cap (nums m) hx (by unfold nums; simp) hc (nums_one m) (by unfold maxLen; omega) (by omega) hbase ?_
    intro v' w' h1 h2 _
    refine h v' w' ?_ ((Below.refl _ _).grown h2 hbase (fun k hk => (World.ownsRow.lt hown k hk).1))
    unfold Owns nums at *
    rw [List.length_append, List.map_append]; exact h1
theorem Src.on {W w : World} {v : Value} {l : List Nat} (h : Src W v l) (hb : ∀ (ad : Addr) (x : Value), W.cell? ad = some x → w.cell? ad = some x) : Src w v l := by
  rcases h with h | ⟨ad, cap, rfl, hc⟩
  · exact .inl h
  · exact .inr ⟨ad, cap, rfl, fun j u hu => hb _ _ (hc j u hu)⟩

set_option maxHeartbeats 1000000 in
set_option maxRecDepth 100000 in
theorem sums_any (X : Int) (A : Nat) (l m : List Nat) (s : Nat) (v v' : Value) (W w : World) (hW : On W w) (hv : validB X = true) (hA : (A : Int) % 4 = X) (hA1 : A ≤ 255) (hR : Reads w v l) (hR' : Reads w v' m) (hS : Shape v l) (hS' : Shape v' m) (hs : s ≤ 18446744073709551615) :
    Calls Tryd.prog 10 #[.int .u8 (A : Int), v, v', .int .u64 (s : Int)] w fun e w' => e = .returned (.bool true) ∧ On W w' := by
  obtain ⟨a, cap, rfl, hlc, hcl, hn⟩ := hS
  obtain ⟨a', cap', rfl, hlc', hcl', hn'⟩ := hS'
  have hX : 0 ≤ X ∧ X ≤ 3 := by unfold validB at hv; simpa using hv
  obtain ⟨hX0, hX3⟩ := hX
  have HR := Lib.hid hR; clear hR
  have HR' := Lib.hid hR'; clear hR'
  have HV := Lib.hid hv; clear hv
  go_enter Tryd.func10, Tryd.ntmps10
  go_upto_region 3 with fail
  go_cut [1, 2, 3, 8, 9] (fun s1 s2 s3 s8 s9 wx => s3 = .int .u64 (s : Int) ∧ s9 = .int .i64 X ∧ Src wx s1 (l.take 100) ∧ Src wx s2 (m.take 100) ∧ Reads wx s1 (l.take 100) ∧ Reads wx s2 (m.take 100) ∧ On W wx)
  case first =>
    clear HV
    rcases a with _ | ⟨b, off, spot⟩
    · have hn0 := hn rfl
      subst hn0
      obtain rfl : l = [] := List.length_eq_zero_iff.1 (by omega)
      rcases a' with _ | ⟨b', off', spot'⟩
      · obtain rfl := hn' rfl
        obtain rfl : m = [] := List.length_eq_zero_iff.1 (by omega)
        go_wp2
        go_region
        all_goals (go_wp2_with fail; go_meet; exact ⟨rfl, rfl, Src.of (HR.out.take 100 _ (by first | omega | rfl)) (by simp), Src.of (HR'.out.take 100 _ (by first | omega | rfl)) (by simp), HR.out.take 100 _ (by first | omega | rfl), HR'.out.take 100 _ (by first | omega | rfl), hW.drew⟩)
      · by_cases h2 : m.length ≤ 100
        · go_wp2
          go_region
          all_goals (go_wp2_with fail; go_meet; exact ⟨rfl, rfl, Src.of (HR.out.take 100 _ (by first | omega | rfl)) (by simp), Src.of (HR'.out.take 100 _ (by first | omega | rfl)) (by simp), HR.out.take 100 _ (by first | omega | rfl), HR'.out.take 100 _ (by first | omega | rfl), hW.drew⟩)
        · go_wp2
          go_region
          all_goals (go_wp2_with fail; go_meet; exact ⟨rfl, rfl, Src.of (HR.out.take 100 _ (by first | omega | rfl)) (by simp), Src.of (HR'.out.take 100 _ (by first | omega | rfl)) (by simp), HR.out.take 100 _ (by first | omega | rfl), HR'.out.take 100 _ (by first | omega | rfl), hW.drew⟩)
    · rcases a' with _ | ⟨b', off', spot'⟩
      · obtain rfl := hn' rfl
        obtain rfl : m = [] := List.length_eq_zero_iff.1 (by omega)
        by_cases h1 : l.length ≤ 100
        · go_wp2
          go_region
          all_goals (go_wp2_with fail; go_meet; exact ⟨rfl, rfl, Src.of (HR.out.take 100 _ (by first | omega | rfl)) (by simp), Src.of (HR'.out.take 100 _ (by first | omega | rfl)) (by simp), HR.out.take 100 _ (by first | omega | rfl), HR'.out.take 100 _ (by first | omega | rfl), hW.drew⟩)
        · go_wp2
          go_region
          all_goals (go_wp2_with fail; go_meet; exact ⟨rfl, rfl, Src.of (HR.out.take 100 _ (by first | omega | rfl)) (by simp), Src.of (HR'.out.take 100 _ (by first | omega | rfl)) (by simp), HR.out.take 100 _ (by first | omega | rfl), HR'.out.take 100 _ (by first | omega | rfl), hW.drew⟩)
      · by_cases h1 : l.length ≤ 100
        · by_cases h2 : m.length ≤ 100
          · go_wp2
            go_region
            all_goals (go_wp2_with fail; go_meet; exact ⟨rfl, rfl, Src.of (HR.out.take 100 _ (by first | omega | rfl)) (by simp), Src.of (HR'.out.take 100 _ (by first | omega | rfl)) (by simp), HR.out.take 100 _ (by first | omega | rfl), HR'.out.take 100 _ (by first | omega | rfl), hW.drew⟩)
          · go_wp2
            go_region
            all_goals (go_wp2_with fail; go_meet; exact ⟨rfl, rfl, Src.of (HR.out.take 100 _ (by first | omega | rfl)) (by simp), Src.of (HR'.out.take 100 _ (by first | omega | rfl)) (by simp), HR.out.take 100 _ (by first | omega | rfl), HR'.out.take 100 _ (by first | omega | rfl), hW.drew⟩)
        · by_cases h2 : m.length ≤ 100
          · go_wp2
            go_region
            all_goals (go_wp2_with fail; go_meet; exact ⟨rfl, rfl, Src.of (HR.out.take 100 _ (by first | omega | rfl)) (by simp), Src.of (HR'.out.take 100 _ (by first | omega | rfl)) (by simp), HR.out.take 100 _ (by first | omega | rfl), HR'.out.take 100 _ (by first | omega | rfl), hW.drew⟩)
          · go_wp2
            go_region
            all_goals (go_wp2_with fail; go_meet; exact ⟨rfl, rfl, Src.of (HR.out.take 100 _ (by first | omega | rfl)) (by simp), Src.of (HR'.out.take 100 _ (by first | omega | rfl)) (by simp), HR.out.take 100 _ (by first | omega | rfl), HR'.out.take 100 _ (by first | omega | rfl), hW.drew⟩)
  case rest =>
    obtain ⟨rfl, rfl, hSa, hSb, hRa, hRb, hOn⟩ := hcut
    obtain ⟨wx, rfl⟩ : ∃ wx : World, wx = wc := ⟨_, rfl⟩
    have hl1 : (l.take 100).length ≤ 100 := by rw [List.length_take]; omega
    have hm1 : (m.take 100).length ≤ 100 := by rw [List.length_take]; omega
    clear HR HR' hA
    generalize l.take 100 = L at *
    generalize m.take 100 = M at *
    obtain ⟨oa, ca, rfl⟩ : ∃ a cap, u1 = .slice a L.length cap := by
      rcases hRa.2.2 with ⟨rfl, a, cap, rfl⟩ | ⟨b, off, cap, rfl, _⟩
      · exact ⟨_, _, rfl⟩
      · exact ⟨_, _, rfl⟩
    obtain ⟨ob, cb, rfl⟩ : ∃ a cap, u2 = .slice a M.length cap := by
      rcases hRb.2.2 with ⟨rfl, a, cap, rfl⟩ | ⟨b, off, cap, rfl, _⟩
      · exact ⟨_, _, rfl⟩
      · exact ⟨_, _, rfl⟩
    have HH : Hid (Src wx (.slice oa L.length ca) L ∧ Src wx (.slice ob M.length cb) M ∧ Reads wx (.slice oa L.length ca) L ∧ Reads wx (.slice ob M.length cb) M) := ⟨hSa, hSb, hRa, hRb⟩
    clear hSa hSb hRa hRb
    go_wp2_with (first
      | (at_builtin; refine wp_append_src rfl (.tmp 28) (.tmp 29) rfl wx.heap.size _ [] rfl (owns_nil _ _) _ L rfl HH.out.1 ?c1 ?c2 ?c3 ?_))
    case c1 => simp; omega
    case c2 => exact Nat.le_refl _
    case c3 => exact hOn.tab
    intro va w1 hva hb1
    have hO1 : On wx w1 := ⟨hOn.tab, hb1⟩
    go_wp2_with (first
      | (at_builtin; refine wp_append_src rfl (.tmp 31) (.tmp 32) rfl wx.heap.size _ L rfl hva _ M rfl (HH.out.2.1.on (fun ad x h => by rw [hO1.2.cell (cell_size h)]; exact h)) ?d1 ?d2 ?d3 ?_))
    case d1 => omega
    case d2 => exact hO1.size
    case d3 => exact hO1.tab
    intro vb w2 hvb hb2
    have hO2 : On wx w2 := ⟨hOn.tab, hb1.trans hb2⟩
    clear hva hb2
    have hvbR : Reads w2 vb (L ++ M) := hvb.reads (fun x hx => by
      rcases List.mem_append.1 hx with h | h
      · exact HH.out.2.2.1.1 x h
      · exact HH.out.2.2.2.1 x h) (by rw [List.length_append]; omega)
    have H2 : Hid (Reads w2 vb (L ++ M) ∧ Reads w2 (.slice oa L.length ca) L ∧ Reads w2 (.slice ob M.length cb) M) := ⟨hvbR, HH.out.2.2.1.on hO2, HH.out.2.2.2.on hO2⟩
    clear HH hvbR hvb hO1
    have hW2 := hOn.trans hO2
    clear hOn hO2
    go_wp2
    obtain ⟨SC, hSC⟩ : ∃ SC, SC = L.map (fun x => mulF X x s) := ⟨_, rfl⟩
    have hSCl : SC.length = L.length := by rw [hSC, List.length_map]
    have HSCL := Lib.hid hSCl; clear hSCl
    have HSC := Lib.hid hSC; clear hSC
    go_loopw [11, 12] (fun vs vi wr => ∃ k : Nat, k ≤ L.length ∧ vi = .int .i64 k ∧ Owns w2.heap.size wr vs (SC.take k) ∧ On w2 wr) (fun _ vi _ => L.length - (intOf vi).toNat)
    case atStart => exact ⟨0, Nat.zero_le _, rfl, owns_nil _ _, On.refl hW2.tab⟩
    case round =>
      obtain ⟨k, hk, rfl, hown, hOk⟩ := hrel
      by_cases hlt : k < L.length
      · obtain ⟨b, off, rfl, hc, hx⟩ := rows_of H2.out.2.1 k hlt
        have hcell : wr.cell? ⟨b, off + k, none⟩ = some (.int .u64 ((L.getD k 0 : Nat) : Int)) := by rw [hOk.2.cell (cell_size hc)]; exact hc
        clear hc
        have hst : SC.take (k + 1) = SC.take k ++ [mulF X (L.getD k 0) s] := by
          rw [take_snoc SC k (by rw [HSCL.out]; exact hlt)]
          congr 2
          rw [HSC.out, List.getD_eq_getElem?_getD, List.getElem?_map, List.getElem?_eq_getElem hlt, List.getD_eq_getElem?_getD, List.getElem?_eq_getElem hlt]; rfl
        have HST := Lib.hid hst; clear hst
        have hln : (SC.take k).length = k := by rw [List.length_take, HSCL.out]; omega
        have HLN := Lib.hid hln; clear hln
        have hT := hOk.tab
        generalize hxe : L.getD k 0 = x at *
        have HE := Lib.hid hxe; clear hxe
        go_wp2_with (first
          | (go_at_call 32; refine (mul_any X x s _ hT hx hs).mono ?_; rintro e w' ⟨rfl, rfl⟩)
          | (at_builtin; refine wp_append_src rfl (.tmp 40) (.tmp 48) rfl w2.heap.size _ _ rfl (World.ownsRow.alloc hown _) _ [mulF X x s] rfl (src_one wr _) ?e1 ?e2 ?e3 ?_))
        case e1 => have := HLN.out; simp only [this, List.length_singleton]; omega
        case e2 => have := hOk.size; simp; omega
        case e3 => exact (hOk.alloc _).tab
        intro vs w3 hvs hb3
        have hO3 : On w2 w3 := ⟨hOk.1, (hOk.alloc _).2.trans hb3⟩
        rw [← HST.out] at hvs
        clear hown hOk hb3 hT
        go_wp2
        go_roundw
        case rel => exact ⟨k + 1, by omega, by go_num, hvs, hO3⟩
        case measure => simp [intOf]; omega
      · obtain rfl : k = L.length := by omega
        have hown' : Owns w2.heap.size wr u11 SC := by have h := hown; rw [← HSCL.out, List.take_length] at h; exact h
        have hp := (valid_iff X).1 HV.out
        have e1 := sumF_append X L M hp
        have e2 : dotF X SC M = mulF X (dotF X L M) s := by rw [HSC.out]; exact dotF_scaled X L M s hp
        have e3 := dotF_comm X M L hp
        have n1 := sumF_le X L; have n2 := sumF_le X M; have n3 := dotF_le X L M
        have hss : ∀ x ∈ SC, x ≤ 18446744073709551615 := by
          intro x hx; rw [HSC.out] at hx; obtain ⟨y, _, rfl⟩ := List.mem_map.1 hx; have := mulF_le X y s; omega
        have H3 : Hid (Reads wr u11 SC ∧ Reads wr vb (L ++ M) ∧ Reads wr (.slice oa L.length ca) L ∧ Reads wr (.slice ob M.length cb) M) := ⟨hown'.reads hss (by rw [HSCL.out]; omega), H2.out.1.on hOk, H2.out.2.1.on hOk, H2.out.2.2.on hOk⟩
        have hW3 := hW2.trans hOk
        have hO3 : On wr wr := On.refl hOk.tab
        clear hown hown' hss H2 hOk hW2
        obtain ⟨wo, rfl⟩ : ∃ wo : World, wo = wr := ⟨_, rfl⟩
        go_wp2_with (first
          | (go_at_call 50; ((with_reducible refine (sum_any X (L ++ M) vb _ (On.tab (W := wo) (by assumption)) (H3.out.2.1.on (by assumption))).mono ?_)); rintro e w' ⟨rfl, rfl⟩)
          | (go_at_call 50; ((with_reducible refine (sum_any X L (.slice oa L.length ca) _ (On.tab (W := wo) (by assumption)) (H3.out.2.2.1.on (by assumption))).mono ?_)); rintro e w' ⟨rfl, rfl⟩)
          | (go_at_call 50; ((with_reducible refine (sum_any X M (.slice ob M.length cb) _ (On.tab (W := wo) (by assumption)) (H3.out.2.2.2.on (by assumption))).mono ?_)); rintro e w' ⟨rfl, rfl⟩)
          | (go_at_call 28; ((with_reducible refine (add_any X (sumF X L) (sumF X M) _ (On.tab (W := wo) (by assumption)) (by omega) (by omega)).mono ?_)); rintro e w' ⟨rfl, rfl⟩)
          | (go_at_call 32; ((with_reducible refine (mul_any X (dotF X L M) s _ (On.tab (W := wo) (by assumption)) (by omega) hs).mono ?_)); rintro e w' ⟨rfl, rfl⟩)
          | (go_at_call 52; ((with_reducible refine (k_fdot X SC M u11 (.slice ob M.length cb) wo _ (by assumption) (H3.out.1.on (by assumption)) (H3.out.2.2.2.on (by assumption))).mono ?_)); rintro e w7 ⟨rfl, hO7, -⟩)
          | (go_at_call 52; ((with_reducible refine (k_fdot X L M (.slice oa L.length ca) (.slice ob M.length cb) wo _ (by assumption) (H3.out.2.2.1.on (by assumption)) (H3.out.2.2.2.on (by assumption))).mono ?_)); rintro e w7 ⟨rfl, hO7, -⟩)
          | (go_at_call 52; ((with_reducible refine (k_fdot X M L (.slice ob M.length cb) (.slice oa L.length ca) wo _ (by assumption) (H3.out.2.2.2.on (by assumption)) (H3.out.2.2.1.on (by assumption))).mono ?_)); rintro e w7 ⟨rfl, hO7, -⟩)
          | (go_at_call 47; ((with_reducible refine (invs_yes X L (.slice oa L.length ca) wo _ (by assumption) HV.out (H3.out.2.2.1.on (by assumption)) (by omega)).mono ?_)); rintro e w8 ⟨rfl, hC8, -, hO8, -⟩))
        have HR8 : Hid (Reads w8 (.slice oa L.length ca) L) := H3.out.2.2.1.on hO8
        have hW8 := hW3.trans hO8
        have hCl : (invsF X L).length = L.length := by unfold invsF; simp
        have HCL := Lib.hid hCl; clear hCl
        clear H3 e1 e2 e3 n1 n2 n3 hO3 hO7 hO8 hW3
        generalize w7.heap.size = B8 at *
        go_loopw [14] (fun vi wr => ∃ k n : Nat, k ≤ L.length ∧ vi = .int .i64 k ∧ Hid (wr = w8.drewN n)) (fun vi _ => L.length - (intOf vi).toNat)
        case atStart => exact ⟨0, 0, Nat.zero_le _, rfl, Lib.hid rfl⟩
        case round =>
          obtain ⟨k, n, hk, rfl, HW⟩ := hrel
          have hT8 : Tab wr := by rw [HW.out]; exact hW8.tab.drewN n
          by_cases hlt : k < L.length
          · obtain ⟨b, off, rfl, hc, hx⟩ := rows_of HR8.out k hlt
            have hcell : wr.cell? ⟨b, off + k, none⟩ = some (.int .u64 ((L.getD k 0 : Nat) : Int)) := by rw [HW.out]; exact hc
            have hcx : wr.cell? ⟨B8, k, none⟩ = some (.int .u64 ((invF X (L.getD k 0) : Nat) : Int)) := by
              rw [HW.out, ← invs_get X L k hlt]; exact hC8.cell k (by rw [HCL.out]; exact hlt)
            clear hc HR8 hC8
            generalize hxe : L.getD k 0 = x at *
            have HE := Lib.hid hxe; clear hxe
            go_wp2
            go_quiet ((go_at_call 36; exact quiet_of_eq (inv_any X x _ (hT8.drewN _) hx)))
            go_wp2
            go_roundw
            case rel => exact ⟨k + 1, n + nq, by omega, by go_num, by unfold Hid; rw [HW.out]; exact World.drewN_drewN _ _ _⟩
            case measure => simp [intOf]; omega
          · obtain rfl : k = L.length := by omega
            have hW9 : On W wr := by rw [HW.out]; exact hW8.drewN n
            clear HR8 hC8
            go_wp2_with (go_at_call 42; refine (works_any W _ hW9).mono ?_; rintro e w9 ⟨rfl, hWf⟩)
            go_ret
            exact ⟨rfl, hWf⟩
end Go.Proofs.YtndaaibjcfddhaaDoor
