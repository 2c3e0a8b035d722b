/- The walk of the law FieldLists: it returns true. -/
import Derived.Test.YtndaaibjcfddhaaDoorRefC
import Derived.Test.YtndaaibjcfddhaaDoorArgs
import Derived.Test.YtndaaibjcfddhaaDoorWorks
import Derived.Deep.DeepCutAuto
namespace Go.Proofs.YtndaaibjcfddhaaDoor
open Go.ChangeShapes Go.WideShapes Go.ChangeAt Go.RowKit
set_option linter.unusedVariables false

theorem owns_on {B : Nat} {e : TypeId} {size n : Nat} {v : Value} {xs : List Value} {w w' : World} (h : w.ownsRow B e size v n xs) (k : On w w') : w'.ownsRow B e size v n xs := by
  refine ⟨h.1, ?_⟩
  rcases h.2 with h1 | ⟨g, cap, cur, rfl, hb, hg, r⟩
  · exact .inl h1
  · exact .inr ⟨g, cap, cur, rfl, hb, by rw [k.2.block g (Array.getElem?_eq_some_iff.1 hg).1]; exact hg, r⟩
theorem Cells.on {B : Nat} {w w' : World} {o : List Nat} (h : Cells B w o) (k : On w w') : Cells B w' o := owns_on h k
/-- Inverses of the document's own answers, over whatever list. -/
theorem rinvs_yes (f : Int) (l : List Nat) (v : Value) (W w : World) (hW : On W w) (hv : validB f = true) (hR : Reads w v l) (hL : l.length ≤ 1000000) :
    Calls Tryd.prog 49 #[.int .i64 f, v] w fun e w' => ∃ v', e = .returned v' ∧ Reads w' v' (invsF f l) ∧ On W w' := by
  have hsm : ∀ x ∈ invsF f l, x ≤ 18446744073709551615 := by
    intro x hx; unfold invsF at hx; obtain ⟨y, _, rfl⟩ := List.mem_map.1 hx; have := invF_le f y; omega
  have hln : (invsF f l).length ≤ 9223372036854775807 := by unfold invsF; simp; omega
  obtain ⟨hU, hL', ⟨rfl, a, cap, rfl⟩ | ⟨b, off, cap, rfl, hc⟩⟩ := hR
  · go_enter Tryd.func49, Tryd.ntmps49
    go_wp2
    refine wp_loop_rounds 1 ?_
    rw [rounds_succ]
    go_wp2
    go_ret
    exact ⟨_, rfl, ⟨by simp [invsF], by simp [invsF], .inl ⟨rfl, none, 0, rfl⟩⟩, hW⟩
  · refine (rinvs_rows f l b off cap w hv hU hL hc (fun h => cell_size (hc 0 h))).mono fun e w' ⟨v', h1, h2, h3⟩ => ⟨v', h1, h2.reads hsm hln, hW.trans ⟨hW.tab, h3⟩⟩
theorem rinvs_not (f : Int) (l : List Nat) (v : Value) (W w : World) (hW : On W w) (hv : validB f = false) (hR : Reads w v l) :
    Calls Tryd.prog 49 #[.int .i64 f, v] w fun e w' => ∃ v', e = .returned v' ∧ Reads w' v' [] ∧ On W w' :=
  (rinvs_no f l v w hv hR).mono fun e w' ⟨h1, h2⟩ => ⟨_, h1, ⟨by simp, by simp, .inl ⟨rfl, none, 0, rfl⟩⟩, h2 ▸ hW⟩
theorem invs_yes (f : Int) (l : List Nat) (v : Value) (W w : World) (hW : On W w) (hv : validB f = true) (hR : Reads w v l) (hL : l.length ≤ 1000000) :
    Calls Tryd.prog 47 #[.int .i64 f, v] w fun e w' => e = .returned (.slice (some ⟨w.heap.size, 0, none⟩) l.length l.length) ∧ Cells w.heap.size w' (invsF f l) ∧ Reads w' (.slice (some ⟨w.heap.size, 0, none⟩) l.length l.length) (invsF f l) ∧ On W w' ∧ On w w' := by
  have hsm : ∀ x ∈ invsF f l, x ≤ 18446744073709551615 := by
    intro x hx; unfold invsF at hx; obtain ⟨y, _, rfl⟩ := List.mem_map.1 hx; have := invF_le f y; omega
  have hln : (invsF f l).length = l.length := by unfold invsF; simp
  refine (invs_any f l v w w (On.refl hW.tab) hR (by omega)).mono fun e w' ⟨_, h2, h3⟩ => ?_
  obtain ⟨h4, h5⟩ := h2 hv
  refine ⟨h4, h5, ?_, hW.trans h3, h3⟩
  have := Owns.reads (Cells.owns h5) hsm (by rw [hln]; omega)
  rw [hln] at this
  exact this
theorem invs_not (f : Int) (l : List Nat) (v : Value) (W w : World) (hW : On W w) (hv : validB f = false) (hR : Reads w v l) (hL : l.length ≤ 1000000) :
    Calls Tryd.prog 47 #[.int .i64 f, v] w fun e w' => e = .returned (.slice none 0 0) ∧ Reads w' (.slice none 0 0) [] ∧ On W w' :=
  (invs_any f l v W w hW hR (by omega)).mono fun e w' ⟨h1, _, h3⟩ => ⟨h1 hv, ⟨by simp, by simp, .inl ⟨rfl, none, 0, rfl⟩⟩, h3⟩
theorem k_rsame (l : List Nat) (v v' : Value) (W w : World) (hW : On W w) (h : Reads w v l) (h' : Reads w v' l) :
    Calls Tryd.prog 48 #[v, v'] w fun r w' => r = .returned (.bool true) ∧ On W w' ∧ On w w' :=
  (rsame_any l l v v' w h h').mono fun r w' ⟨h2, n, h3⟩ => ⟨by rw [h2]; simp, by rw [h3]; exact hW.drewN n, by rw [h3]; exact (On.refl hW.tab).drewN n⟩
theorem k_rsum (f : Int) (l : List Nat) (v : Value) (W w : World) (hW : On W w) (h : Reads w v l) :
    Calls Tryd.prog 51 #[.int .i64 f, v] w fun e w' => e = .returned (.int .u64 ((sumF f l : Nat) : Int)) ∧ On W w' ∧ On w w' :=
  (rsum_any f l v w h).mono fun r w' ⟨h2, h3⟩ => ⟨h2, h3.on hW, h3.on (On.refl hW.tab)⟩
theorem k_rdot (f : Int) (l m : List Nat) (v v' : Value) (W w : World) (hW : On W w) (h : Reads w v l) (h' : Reads w v' m) :
    Calls Tryd.prog 53 #[.int .i64 f, v, v'] w fun e w' => e = .returned (.int .u64 ((dotF f l m : Nat) : Int)) ∧ On W w' ∧ On w w' :=
  (rdot_any f l m v v' w h h').mono fun r w' ⟨h2, h3⟩ => ⟨h2, h3.on hW, h3.on (On.refl hW.tab)⟩
theorem k_fdot (f : Int) (l m : List Nat) (v v' : Value) (W w : World) (hW : On W w) (h : Reads w v l) (h' : Reads w v' m) :
    Calls Tryd.prog 52 #[.int .i64 f, v, v'] w fun e w' => e = .returned (.int .u64 ((dotF f l m : Nat) : Int)) ∧ On W w' ∧ On w w' :=
  (dot_any f l m v v' w hW.tab h h').mono fun r w' ⟨h2, n, h3⟩ => ⟨h2, by rw [h3]; exact hW.drewN n, by rw [h3]; exact (On.refl hW.tab).drewN n⟩
theorem row_cells {w : World} {b off : Nat} {l : List Nat} (hc : ∀ i, i < l.length → w.cell? ⟨b, off + i, none⟩ = some (.int .u64 ((l.getD i 0 : Nat) : Int))) :
    ∀ j u, (nums l)[j]? = some u → w.cell? ((⟨b, off, none⟩ : Addr).add j) = some u := by
  intro j u h
  have hj : j < l.length := by have := (List.getElem?_eq_some_iff.1 h).1; simpa [nums] using this
  rw [nums_get l j hj] at h
  rw [add_plain, hc j hj]; exact h
/-- What a slice that is appended is: nil, or its cells. -/
def Src (w : World) (v : Value) (l : List Nat) : Prop := (v = .slice none 0 0 ∧ l = []) ∨ ∃ (ad : Addr) (cap : Nat), v = .slice (some ad) l.length cap ∧ ∀ j u, (nums l)[j]? = some u → w.cell? (ad.add j) = some u
theorem Src.of {w : World} {a : Option Addr} {m cap : Nat} {l : List Nat} (h : Reads w (.slice a m cap) l) (hn : a = none → cap = 0) : Src w (.slice a m cap) l := by
  obtain ⟨_, _, ⟨rfl, a', cap', hv⟩ | ⟨b, off, cap', hv, hc⟩⟩ := h
  · simp only [Value.slice.injEq] at hv
    obtain ⟨rfl, rfl, rfl⟩ := hv
    cases a with
    | none => rw [hn rfl]; exact .inl ⟨rfl, rfl⟩
    | some ad => exact .inr ⟨ad, cap, rfl, fun j u h => by simp [nums] at h⟩
  · simp only [Value.slice.injEq] at hv
    obtain ⟨rfl, rfl, rfl⟩ := hv
    exact .inr ⟨_, _, rfl, row_cells hc⟩
theorem nums_one (l : List Nat) : ∀ u ∈ nums l, u.oneCell' = true := by
  intro u hu; unfold nums at hu; obtain ⟨x, _, rfl⟩ := List.mem_map.1 hu; rfl

set_option maxHeartbeats 1000000 in
set_option maxRecDepth 100000 in
theorem lists_any (f : Int) (l m : List Nat) (v v' : Value) (W w : World) (hW : On W w) (hR : Reads w v l) (hR' : Reads w v' m) (hS : Shape v l) (hS' : Shape v' m) :
    Calls Tryd.prog 5 #[.int .i64 f, v, v'] w fun e w' => e = .returned (.bool true) ∧ On W w' := by
  obtain ⟨a, cap, rfl, hlc, hcl, hn⟩ := hS
  obtain ⟨a', cap', rfl, hlc', hcl', hn'⟩ := hS'
  have HR := Lib.hid hR; clear hR
  have HR' := Lib.hid hR'; clear hR'
  go_enter Tryd.func5, Tryd.ntmps5
  go_upto_region 2 with fail
  go_cut [0, 1, 2, 6] (fun s0 s1 s2 s6 wx => s0 = .int .i64 f ∧ Src wx s1 (l.take 500) ∧ Reads wx s1 (l.take 500) ∧ Reads wx s2 (m.take 500) ∧ On W wx)
  case first =>
    rcases a with _ | ⟨b, off, spot⟩
    · have hn0 := hn rfl
      subst hn0
      obtain rfl : l = [] := List.length_eq_zero_iff.1 (by omega)
      rcases a' with _ | ⟨b', off', spot'⟩
      · obtain rfl := hn' rfl
        obtain rfl : m = [] := List.length_eq_zero_iff.1 (by omega)
        go_wp2
        go_region
        all_goals (go_wp2_with fail; go_meet; exact ⟨rfl, Src.of (HR.out.take 500 _ (by first | omega | rfl)) (by simp), HR.out.take 500 _ (by first | omega | rfl), HR'.out.take 500 _ (by first | omega | rfl), hW.drew⟩)
      · by_cases h2 : m.length ≤ 500
        · go_wp2
          go_region
          all_goals (go_wp2_with fail; go_meet; exact ⟨rfl, Src.of (HR.out.take 500 _ (by first | omega | rfl)) (by simp), HR.out.take 500 _ (by first | omega | rfl), HR'.out.take 500 _ (by first | omega | rfl), hW.drew⟩)
        · go_wp2
          go_region
          all_goals (go_wp2_with fail; go_meet; exact ⟨rfl, Src.of (HR.out.take 500 _ (by first | omega | rfl)) (by simp), HR.out.take 500 _ (by first | omega | rfl), HR'.out.take 500 _ (by first | omega | rfl), hW.drew⟩)
    · rcases a' with _ | ⟨b', off', spot'⟩
      · obtain rfl := hn' rfl
        obtain rfl : m = [] := List.length_eq_zero_iff.1 (by omega)
        by_cases h1 : l.length ≤ 500
        · go_wp2
          go_region
          all_goals (go_wp2_with fail; go_meet; exact ⟨rfl, Src.of (HR.out.take 500 _ (by first | omega | rfl)) (by simp), HR.out.take 500 _ (by first | omega | rfl), HR'.out.take 500 _ (by first | omega | rfl), hW.drew⟩)
        · go_wp2
          go_region
          all_goals (go_wp2_with fail; go_meet; exact ⟨rfl, Src.of (HR.out.take 500 _ (by first | omega | rfl)) (by simp), HR.out.take 500 _ (by first | omega | rfl), HR'.out.take 500 _ (by first | omega | rfl), hW.drew⟩)
      · by_cases h1 : l.length ≤ 500
        · by_cases h2 : m.length ≤ 500
          · go_wp2
            go_region
            all_goals (go_wp2_with fail; go_meet; exact ⟨rfl, Src.of (HR.out.take 500 _ (by first | omega | rfl)) (by simp), HR.out.take 500 _ (by first | omega | rfl), HR'.out.take 500 _ (by first | omega | rfl), hW.drew⟩)
          · go_wp2
            go_region
            all_goals (go_wp2_with fail; go_meet; exact ⟨rfl, Src.of (HR.out.take 500 _ (by first | omega | rfl)) (by simp), HR.out.take 500 _ (by first | omega | rfl), HR'.out.take 500 _ (by first | omega | rfl), hW.drew⟩)
        · by_cases h2 : m.length ≤ 500
          · go_wp2
            go_region
            all_goals (go_wp2_with fail; go_meet; exact ⟨rfl, Src.of (HR.out.take 500 _ (by first | omega | rfl)) (by simp), HR.out.take 500 _ (by first | omega | rfl), HR'.out.take 500 _ (by first | omega | rfl), hW.drew⟩)
          · go_wp2
            go_region
            all_goals (go_wp2_with fail; go_meet; exact ⟨rfl, Src.of (HR.out.take 500 _ (by first | omega | rfl)) (by simp), HR.out.take 500 _ (by first | omega | rfl), HR'.out.take 500 _ (by first | omega | rfl), hW.drew⟩)
  case rest =>
    obtain ⟨rfl, hSrc, hR1, hR2, hOn⟩ := hcut
    obtain ⟨wx, rfl⟩ : ∃ wx : World, wx = wc := ⟨_, rfl⟩
    have hl5 : (l.take 500).length ≤ 500 := by rw [List.length_take]; omega
    have hm5 : (m.take 500).length ≤ 500 := by rw [List.length_take]; omega
    clear HR HR'
    generalize l.take 500 = L at *
    generalize m.take 500 = M at *
    obtain ⟨i0, hi, hz0, hz1, hz2⟩ := info_parts info_u64
    have HI := Lib.hid hi; have HZ0 := Lib.hid hz0; have HZ1 := Lib.hid hz1; have HZ2 := Lib.hid hz2
    clear hz0 hz1 hz2
    have hL : L.length ≤ 9223372036854775807 := by omega
    rcases hSrc with ⟨rfl, rfl⟩ | ⟨ad, cap1, rfl, hc⟩
    · obtain ⟨w1, rfl⟩ : ∃ w1 : World, w1 = wx := ⟨_, rfl⟩
      have hOn1 : On W w1 := hOn
      have HRS : Hid (Reads w1 (.slice none 0 0) [] ∧ Reads w1 u2 M) := ⟨hR1, hR2⟩
      clear hR1 hR2 hOn HI HZ0 HZ1 HZ2 hL hl5
      cases hv : validB f
      · have HV := Lib.hid hv; clear hv
        go_wp2_with (first
          | (go_at_call 47; ((with_reducible refine (invs_not f [] _ w1 _ (On.refl hOn1.tab) HV.out HRS.out.1 (by simp)).mono ?_)); rintro e w2 ⟨rfl, hRx, hO12⟩; have hOn2 := hOn1.trans hO12)
          | (go_at_call 49; ((with_reducible refine (rinvs_not f [] _ w2 _ (On.refl hOn2.tab) HV.out (HRS.out.1.on hO12)).mono ?_)); rintro e w3 ⟨v3, rfl, hR3, hO23⟩)
          | (go_at_call 48; ((with_reducible refine (k_rsame [] _ v3 w2 _ hO23 (hRx.on hO23) hR3).mono ?_)); rintro e w4 ⟨rfl, hO24, hO34⟩)
          | (go_at_call 50; ((with_reducible refine (sum_any f [] _ _ hO24.tab (HRS.out.1.on (hO12.trans hO24))).mono ?_)); rintro e w' ⟨rfl, rfl⟩)
          | (go_at_call 51; ((with_reducible refine (k_rsum f [] _ w2 _ hO24 (HRS.out.1.on (hO12.trans hO24))).mono ?_)); rintro e w5 ⟨rfl, hO25, -⟩)
          | (go_at_call 52; ((with_reducible refine (k_fdot f [] M _ u2 w2 _ hO25 (HRS.out.1.on (hO12.trans hO25)) (HRS.out.2.on (hO12.trans hO25))).mono ?_)); rintro e w6 ⟨rfl, hO26, -⟩)
          | (go_at_call 53; ((with_reducible refine (k_rdot f [] M _ u2 w2 _ hO26 (HRS.out.1.on (hO12.trans hO26)) (HRS.out.2.on (hO12.trans hO26))).mono ?_)); rintro e w7 ⟨rfl, hO27, -⟩))
        refine wp_loop_rounds 1 ?_
        rw [rounds_succ]
        have hO17 := hO12.trans hO27
        have hOW := hOn1.trans hO17
        go_wp2_with (first
          | (go_at_call 48; ((with_reducible refine (k_rsame [] _ (.slice none 0 0) W _ hOW (HRS.out.1.on hO17) (HRS.out.1.on hO17)).mono ?_)); rintro e w8 ⟨rfl, hO8, -⟩)
          | (go_at_call 42; refine (works_any W _ hO8).mono ?_; rintro e w9 ⟨rfl, hW9⟩))
        go_ret
        exact ⟨rfl, hW9⟩

      · have HV := Lib.hid hv; clear hv
        go_wp2_with (first
          | (go_at_call 47; ((with_reducible refine (invs_yes f [] _ W _ hOn1 HV.out HRS.out.1 (by simp)).mono ?_)); rintro e w2 ⟨rfl, hC2, hRy, hOn2, hO12⟩; have hRx : Reads w2 (.slice (some ⟨w1.heap.size, 0, none⟩) 0 0) [] := hRy)
          | (go_at_call 49; ((with_reducible refine (rinvs_yes f [] _ w2 _ (On.refl hOn2.tab) HV.out (HRS.out.1.on hO12) (by simp)).mono ?_)); rintro e w3 ⟨v3, rfl, hRz, hO23⟩; have hR3 : Reads w3 v3 [] := hRz)
          | (go_at_call 48; ((with_reducible refine (k_rsame [] _ v3 w2 _ hO23 (hRx.on hO23) hR3).mono ?_)); rintro e w4 ⟨rfl, hO24, hO34⟩)
          | (go_at_call 50; ((with_reducible refine (sum_any f [] _ _ hO24.tab (HRS.out.1.on (hO12.trans hO24))).mono ?_)); rintro e w' ⟨rfl, rfl⟩)
          | (go_at_call 51; ((with_reducible refine (k_rsum f [] _ w2 _ hO24 (HRS.out.1.on (hO12.trans hO24))).mono ?_)); rintro e w5 ⟨rfl, hO25, -⟩)
          | (go_at_call 52; ((with_reducible refine (k_fdot f [] M _ u2 w2 _ hO25 (HRS.out.1.on (hO12.trans hO25)) (HRS.out.2.on (hO12.trans hO25))).mono ?_)); rintro e w6 ⟨rfl, hO26, -⟩)
          | (go_at_call 53; ((with_reducible refine (k_rdot f [] M _ u2 w2 _ hO26 (HRS.out.1.on (hO12.trans hO26)) (HRS.out.2.on (hO12.trans hO26))).mono ?_)); rintro e w7 ⟨rfl, hO27, -⟩))
        refine wp_loop_rounds 1 ?_
        rw [rounds_succ]
        have hO17 := hO12.trans hO27
        have hOW := hOn1.trans hO17
        go_wp2_with (first
          | (go_at_call 48; ((with_reducible refine (k_rsame [] _ (.slice none 0 0) W _ hOW (HRS.out.1.on hO17) (HRS.out.1.on hO17)).mono ?_)); rintro e w8 ⟨rfl, hO8, -⟩)
          | (go_at_call 42; refine (works_any W _ hO8).mono ?_; rintro e w9 ⟨rfl, hW9⟩))
        go_ret
        exact ⟨rfl, hW9⟩
    · have HC := Lib.hid hc; clear hc hi
      go_wp2_with (first
        | (at_builtin; refine wpList_append_own _ rfl (.tmp 21) (.tmp 22) 37 rfl wx.heap.size 22 i0 (.int .u64 0) 1 8 Tryd.underlying37 HI.out HZ0.out HZ1.out HZ2.out rfl (by decide) _ 0 [] rfl (World.ownsRow_nil _ _ _ _) ad L.length cap1 (nums L) rfl ?c0 ?c1 ?c2 ?c3 ?c4 ?c5 ?_))
      case c0 => unfold nums; simp
      case c1 => exact HC.out
      case c2 => exact nums_one L
      case c3 => unfold maxLen; omega
      case c4 => omega
      case c5 => exact Nat.le_refl _
      intro vo w1 hown hgrow _
      have hown1 : Owns wx.heap.size w1 vo L := by
        unfold Owns; simpa using hown
      have hOw : On wx w1 := ⟨hOn.tab, (Below.refl _ _).grown hgrow (Nat.le_refl _) (fun k hk => by simp [Value.ownBlock] at hk)⟩
      clear hown hgrow
      have hOn1 := hOn.trans hOw
      have hRo : Reads w1 vo L := hown1.reads hR1.1 hL
      have hR1a := hR1.on hOw
      have hR2a := hR2.on hOw
      have HRS : Hid (Reads w1 vo L ∧ Reads w1 (.slice (some ad) L.length cap1) L ∧ Reads w1 u2 M) := ⟨hRo, hR1a, hR2a⟩
      clear hRo hR1a hR2a hR1 hR2 HC hown1
      cases hv : validB f
      · have HV := Lib.hid hv; clear hv
        go_wp2_with (first
          | (go_at_call 47; ((with_reducible refine (invs_not f L _ w1 _ (On.refl hOn1.tab) HV.out HRS.out.2.1 (by omega)).mono ?_)); rintro e w2 ⟨rfl, hRx, hO12⟩; have hOn2 := hOn1.trans hO12)
          | (go_at_call 49; ((with_reducible refine (rinvs_not f L _ w2 _ (On.refl hOn2.tab) HV.out (HRS.out.1.on hO12)).mono ?_)); rintro e w3 ⟨v3, rfl, hR3, hO23⟩)
          | (go_at_call 48; ((with_reducible refine (k_rsame [] _ v3 w2 _ hO23 (hRx.on hO23) hR3).mono ?_)); rintro e w4 ⟨rfl, hO24, hO34⟩)
          | (go_at_call 50; ((with_reducible refine (sum_any f L _ _ hO24.tab (HRS.out.2.1.on (hO12.trans hO24))).mono ?_)); rintro e w' ⟨rfl, rfl⟩)
          | (go_at_call 51; ((with_reducible refine (k_rsum f L _ w2 _ hO24 (HRS.out.1.on (hO12.trans hO24))).mono ?_)); rintro e w5 ⟨rfl, hO25, -⟩)
          | (go_at_call 52; ((with_reducible refine (k_fdot f L M _ u2 w2 _ hO25 (HRS.out.2.1.on (hO12.trans hO25)) (HRS.out.2.2.on (hO12.trans hO25))).mono ?_)); rintro e w6 ⟨rfl, hO26, -⟩)
          | (go_at_call 53; ((with_reducible refine (k_rdot f L M _ u2 w2 _ hO26 (HRS.out.1.on (hO12.trans hO26)) (HRS.out.2.2.on (hO12.trans hO26))).mono ?_)); rintro e w7 ⟨rfl, hO27, -⟩))
        refine wp_loop_rounds 1 ?_
        rw [rounds_succ]
        have hO17 := hO12.trans hO27
        have hOW := hOn1.trans hO17
        go_wp2_with (first
          | (go_at_call 48; ((with_reducible refine (k_rsame L _ vo W _ hOW (HRS.out.2.1.on hO17) (HRS.out.1.on hO17)).mono ?_)); rintro e w8 ⟨rfl, hO8, -⟩)
          | (go_at_call 42; refine (works_any W _ hO8).mono ?_; rintro e w9 ⟨rfl, hW9⟩))
        go_ret
        exact ⟨rfl, hW9⟩

      · have HV := Lib.hid hv; clear hv
        go_wp2_with (first
          | (go_at_call 47; ((with_reducible refine (invs_yes f L _ W _ hOn1 HV.out HRS.out.2.1 (by omega)).mono ?_)); rintro e w2 ⟨rfl, hC2, hRx, hOn2, hO12⟩)
          | (go_at_call 49; ((with_reducible refine (rinvs_yes f L _ w2 _ (On.refl hOn2.tab) HV.out (HRS.out.1.on hO12) (by omega)).mono ?_)); rintro e w3 ⟨v3, rfl, hR3, hO23⟩)
          | (go_at_call 48; ((with_reducible refine (k_rsame (invsF f L) _ v3 w2 _ hO23 (hRx.on hO23) hR3).mono ?_)); rintro e w4 ⟨rfl, hO24, hO34⟩)
          | (go_at_call 50; ((with_reducible refine (sum_any f L _ _ hO24.tab (HRS.out.2.1.on (hO12.trans hO24))).mono ?_)); rintro e w' ⟨rfl, rfl⟩)
          | (go_at_call 51; ((with_reducible refine (k_rsum f L _ w2 _ hO24 (HRS.out.1.on (hO12.trans hO24))).mono ?_)); rintro e w5 ⟨rfl, hO25, -⟩)
          | (go_at_call 52; ((with_reducible refine (k_fdot f L M _ u2 w2 _ hO25 (HRS.out.2.1.on (hO12.trans hO25)) (HRS.out.2.2.on (hO12.trans hO25))).mono ?_)); rintro e w6 ⟨rfl, hO26, -⟩)
          | (go_at_call 53; ((with_reducible refine (k_rdot f L M _ u2 w2 _ hO26 (HRS.out.1.on (hO12.trans hO26)) (HRS.out.2.2.on (hO12.trans hO26))).mono ?_)); rintro e w7 ⟨rfl, hO27, -⟩))
        go_loopw [10] (fun vi wr => ∃ (k : Nat) (o : List Nat), k ≤ L.length ∧ vi = .int .i64 k ∧ o.length = L.length ∧ Cells w1.heap.size wr o ∧ On w1 wr) (fun vi _ => L.length - (intOf vi).toNat)
        case atStart => exact ⟨0, invsF f L, Nat.zero_le _, rfl, by unfold invsF; simp, hC2.on hO27, hO12.trans hO27⟩
        case round =>
          clear hO27 hO26 hO25 hO24 hO23 hO34 hR3 hRx hC2
          obtain ⟨k, o, hk, rfl, ho, hC, hOk⟩ := hrel
          by_cases hlt : k < L.length
          · have hco := hC.cell k (by omega)
            have hfr := hC.free k
            have hC2 := hC.set k 7
            have hOs : On w1 (wr.setCell ⟨w1.heap.size, k, none⟩ (.int .u64 ((7 : Nat) : Int))) := hOk.setCell (Nat.le_refl _) _
            have HLO : Hid ((o.set k 7).length = L.length) := by unfold Hid; rw [List.length_set]; exact ho
            clear ho hC
            generalize o.getD k 0 = y at hco
            go_wp2
            go_roundw
            case rel => exact ⟨k + 1, _, by omega, by go_num, HLO.out, hC2, hOs⟩
            case measure => simp [intOf]; omega
          · obtain rfl : k = L.length := by omega
            clear ho hC
            have hOW := hOn1.trans hOk
            obtain ⟨wo, rfl⟩ : ∃ wo : World, wo = wr := ⟨_, rfl⟩
            go_wp2_with (first
              | (go_at_call 48; ((with_reducible refine (k_rsame L _ vo W _ hOW (HRS.out.2.1.on hOk) (HRS.out.1.on hOk)).mono ?_)); rintro e w8 ⟨rfl, hO8, -⟩)
              | (go_at_call 42; refine (works_any W _ hO8).mono ?_; rintro e w9 ⟨rfl, hW9⟩))
            go_ret
            exact ⟨rfl, hW9⟩

end Go.Proofs.YtndaaibjcfddhaaDoor
