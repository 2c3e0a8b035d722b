/- divide of package ratio. -/
import Derived.Test.YtdgmlmcllkgemaaTake
namespace Go.Proofs.Ytdgmlmcllkgemaa
open Go.RowKit
set_option linter.unusedVariables false

/-- Block B holds the m limbs of X. -/
structure Bk (w : World) (B m : Nat) (X : Int) : Prop where
  cells : ∀ k, k < m → w.cell? ⟨B, 0 + k, none⟩ = some (.int .u32 ((dg X k : Nat) : Int))
  free : ∀ k, w.frozen? ⟨B, k, none⟩ = false
theorem Bk.ap {w w' : World} {B C m : Nat} {X : Int} (h : Bk w C m X) (k : Ap B w w') (hn : C ≠ B) : Bk w' C m X :=
  ⟨fun i hi => by rw [k.cell (p := ⟨C, 0 + i, none⟩) hn]; exact h.cells i hi, fun i => by rw [World.frozen?_of_block (w := w) (k.block C hn)]; exact h.free i⟩
theorem Bk.win {w : World} {B m : Nat} {X : Int} (h : Bk w B m X) : Win B 0 m X w w := Win.start h.cells h.free
theorem Bk.part {w w' : World} {B m off t : Nat} {X X' Y : Int} (h : Bk w B m X) (k : Win B off t Y w w') (hlo : ∀ i, i < off → dg X' i = dg X i) (hmid : ∀ i, i < t → dg X' (off + i) = dg Y i) (hhi : ∀ i, off + t ≤ i → i < m → dg X' i = dg X i) (hm : off + t ≤ m) : Bk w' B m X' :=
  have r := h.win.part k hlo hmid hhi hm
  ⟨r.cells, r.free⟩
theorem Bk.sub {w : World} {B m x : Nat} (h : Bk w B m (x : Int)) (off t : Nat) (hm : off + t ≤ m) : ∀ k, k < t → w.cell? ⟨B, off + k, none⟩ = some (.int .u32 ((dg ((x / 4294967296 ^ off : Nat) : Int) k : Nat) : Int)) := h.win.sub off t hm
theorem Bk.on {w w' : World} {B m : Nat} {X : Int} (h : Bk w B m X) (k : On w w') (hB : B < w.heap.size) : Bk w' B m X :=
  ⟨fun i hi => by rw [Below.cell k (p := ⟨B, 0 + i, none⟩) hB]; exact h.cells i hi, fun i => by rw [Below.frozen k (p := ⟨B, i, none⟩) hB]; exact h.free i⟩
theorem Bk.lv {w : World} {B m cap : Nat} {X : Int} (h : Bk w B m X) (hm : m ≤ cap) (hcap : cap ≤ 9223372036854775807) : Lv w (.slice (some ⟨B, 0, none⟩) m cap) m X := h.win.lv hm hcap
theorem Bk.rd {w : World} {B m m' : Nat} {X : Int} (h : Bk w B m X) (hm : m' ≤ m) : Rd w (some ⟨B, 0, none⟩) m' X := fun k hk => ⟨B, 0, rfl, h.cells k (by omega)⟩
theorem Win.one {w : World} {B off : Nat} {v : Value} (hc : w.cell? ⟨B, off, none⟩ = some v) (hf : ∀ k, w.frozen? ⟨B, k, none⟩ = false) (z : Nat) (hz : z < 4294967296) : Win B off 1 (z : Int) w (w.setCell ⟨B, off, none⟩ (.int .u32 (z : Int))) := by
  refine ⟨fun k hk => ?_, fun k hk => ?_, fun k => ?_, (Ap.refl _ _).setCell _ _⟩
  · obtain rfl : k = 0 := by omega
    have : dg (z : Int) 0 = z := by rw [dg_nat]; simp; omega
    rw [this]
    exact World.cell?_setCell_same (h := hc) ..
  · exact World.cell?_setCell_other (h := fun e => by simp at e; try omega) ..
  · rw [World.frozen?_setCell]; exact hf k
theorem Bk.made (w : World) (n : Nat) : Bk (w.alloc (.cells (madeCells #[.int .u32 0] n) 54)) w.heap.size n ((0 : Nat) : Int) := ⟨fun k hk => made_cell w n k hk, fun k => made_free w n k⟩

/-- The limbs of Q from place k on. -/
theorem up_limbs (Q k j : Nat) : dg ((4294967296 ^ k * (Q / 4294967296 ^ k) : Nat) : Int) j = if j < k then 0 else dg (Q : Int) j := by
  split
  · rename_i h
    obtain ⟨d, rfl⟩ : ∃ d, k = j + 1 + d := ⟨k - (j + 1), by omega⟩
    rw [dg_nat, Nat.pow_add, Nat.pow_succ, Nat.mul_assoc, Nat.mul_assoc, Nat.mul_div_cancel_left _ (pw_pos j)]
    omega
  · rename_i h
    obtain ⟨d, rfl⟩ : ∃ d, j = k + d := ⟨j - k, by omega⟩
    rw [dg_shift_nat, Nat.mul_div_cancel_left _ (pw_pos k), dg_shift_nat]

theorem takeAll_n (n B off cap cap' p x D : Nat) (oa : Option Addr) (w : World) (hn : n = p + 1) (hm : n + 1 ≤ cap) (hcap : cap ≤ 9223372036854775807) (hc : ∀ k, k < n + 1 → w.cell? ⟨B, off + k, none⟩ = some (.int .u32 ((dg (x : Int) k : Nat) : Int))) (hf : ∀ k, w.frozen? ⟨B, k, none⟩ = false)
    (hd : Rd w oa n (D : Int)) (hne : ∀ b o, oa = some ⟨b, o, none⟩ → 0 < n → b ≠ B) (hD : D < 4294967296 ^ n) (hD0 : 0 < D / 4294967296 ^ p) (hx : x < D * 4294967296) :
    Calls Try.prog 84 #[.slice (some ⟨B, off, none⟩) (n + 1) cap, .slice oa n cap'] w fun e w' => e = .returned (.int .u32 ((x / D : Nat) : Int)) ∧ Win B off (n + 1) ((x % D : Nat) : Int) w w' := by
  subst hn
  exact takeAll_any B off cap cap' p x D oa w hm hcap hc hf hd hne hD hD0 hx

theorem norm_fits {y p s t d : Nat} (hd : d = y / 4294967296 ^ p) (hst : s + t = 32) (h : d * 2 ^ s < 4294967296) : y * 2 ^ s < 4294967296 ^ (p + 1) := by
  have hB : 4294967296 = 2 ^ t * 2 ^ s := by rw [← Nat.pow_add, show t + s = 32 by omega]
  have hs0 : 0 < 2 ^ s := Nat.pow_pos (by decide)
  have h1 : d < 2 ^ t := by
    rw [hB] at h
    exact Nat.lt_of_mul_lt_mul_right h
  have h2 : (d + 1) * 2 ^ s ≤ 4294967296 := by
    have := Nat.mul_le_mul_right (2 ^ s) (show d + 1 ≤ 2 ^ t from h1)
    rw [← hB] at this
    exact this
  have h3 : y < (d + 1) * 4294967296 ^ p := by
    rw [hd, Nat.add_mul, Nat.one_mul, Nat.mul_comm]
    have := Nat.div_add_mod y (4294967296 ^ p)
    have := Nat.mod_lt y (pw_pos p)
    omega
  have h4 : y * 2 ^ s < (d + 1) * 4294967296 ^ p * 2 ^ s := Nat.mul_lt_mul_of_pos_right h3 hs0
  rw [Nat.pow_succ]
  refine Nat.lt_of_lt_of_le h4 ?_
  rw [Nat.mul_right_comm, Nat.mul_comm]
  exact Nat.mul_le_mul_left _ h2

/-- A round of the division, in numbers. -/
theorem round_any {A D n i m L : Nat} (hD : D < 4294967296 ^ n) (hDp : 0 < D) (hL : i < L) (hm : m = n + L) :
    A % (D * 4294967296 ^ (i + 1)) / 4294967296 ^ i < D * 4294967296 ∧
    A % (D * 4294967296 ^ (i + 1)) / 4294967296 ^ i / D = dg ((A / D : Nat) : Int) i ∧
    (∀ k, k < i → dg ((A % (D * 4294967296 ^ i) : Nat) : Int) k = dg ((A % (D * 4294967296 ^ (i + 1)) : Nat) : Int) k) ∧
    (∀ k, dg ((A % (D * 4294967296 ^ i) : Nat) : Int) (i + k) = dg ((A % (D * 4294967296 ^ (i + 1)) / 4294967296 ^ i % D : Nat) : Int) k) ∧
    (∀ k, i + (n + 1) ≤ k → dg ((A % (D * 4294967296 ^ i) : Nat) : Int) k = dg ((A % (D * 4294967296 ^ (i + 1)) : Nat) : Int) k) := by
  obtain ⟨e1, e2⟩ := div_next (A := A) (D := D) (i := i)
  obtain ⟨w1, w2, w3⟩ := div_window (R := A % (D * 4294967296 ^ (i + 1))) (D := D) (i := i)
  rw [e1] at w1 w2
  have hR : A % (D * 4294967296 ^ (i + 1)) < D * 4294967296 ^ (i + 1) := Nat.mod_lt _ (Nat.mul_pos hDp (pw_pos _))
  refine ⟨?_, ?_, fun k hk => ?_, fun k => ?_, fun k hk => ?_⟩
  · rw [Nat.div_lt_iff_lt_mul (pw_pos i), Nat.mul_assoc, Nat.mul_comm 4294967296, ← Nat.pow_succ]; exact hR
  · rw [w3, e2]
  · refine dg_congr (m := i) ?_ hk
    rw [← pw_cast, ← Int.natCast_emod, ← Int.natCast_emod, w1]
  · rw [dg_shift_nat, w2]
  · have h1 : D * 4294967296 ^ (i + 1) ≤ 4294967296 ^ k := by
      refine Nat.le_trans (Nat.mul_le_mul_right _ (Nat.le_of_lt hD)) ?_
      rw [← Nat.pow_add]
      exact Nat.pow_le_pow_right (by decide) (by omega)
    have h2 : A % (D * 4294967296 ^ i) < 4294967296 ^ k := by
      refine Nat.lt_of_lt_of_le (Nat.mod_lt _ (Nat.mul_pos hDp (pw_pos _))) (Nat.le_trans ?_ h1)
      exact Nat.mul_le_mul_left _ (Nat.pow_le_pow_right (by decide) (by omega))
    rw [dg_zero (Nat.lt_of_lt_of_le hR h1), dg_zero h2]

theorem shifted_n (n : Nat) (va : Value) (x s : Nat) (w : World) (hn : nl x = n) (ha : Nv w va x) (hs : s < 32) (hx : n ≤ 1000000) :
    Calls Try.prog 83 #[va, .int .i64 (s : Int)] w fun e w' => e = .returned (.slice (some ⟨w.heap.size, 0, none⟩) (n + 1) (n + 1)) ∧ Bk w' w.heap.size (n + 1) ((x * 2 ^ s : Nat) : Int) ∧ w'.heap.size = w.heap.size + 1 ∧ On w w' := by
  subst hn
  exact (shifted_any va x s w ha hs hx).mono fun e w' ⟨h1, h2, h3, h4, h5⟩ => ⟨h1, ⟨h2, h3⟩, h4, h5⟩
set_option maxHeartbeats 2000000 in
theorem divide_z (va vb : Value) (x y : Nat) (w : World) (ha : Nv w va x) (hb : Nv w vb y) (hy0 : 0 < y) (hx : nl x ≤ 1000000) :
    Calls Try.prog 56 #[va, vb] w fun e w' => ∃ vq vr, e = .returned (.tuple #[vq, vr]) ∧ Nv w' vq (x / y) ∧ Nv w' vr (x % y) ∧ On w w' ∧ Z0 vq := by
  have HA := Lib.hid ha
  have HB := Lib.hid hb
  obtain ⟨oa, ca, rfl, h1, h2, hR⟩ := ha
  obtain ⟨ob, cb, rfl, h3, h4, hS⟩ := hb
  rcases Nat.lt_or_ge (nl x) (nl y) with hlt | hge
  · have hxy := lt_of_nl hlt
    have HQ : Hid (x / y = 0 ∧ x % y = x) := ⟨Nat.div_eq_of_lt hxy, Nat.mod_eq_of_lt hxy⟩
    rw [HQ.out.1, HQ.out.2]
    clear hR hS
    go_enter Try.func56, Try.ntmps56
    go_wp2_with (go_at_call 81; refine (copied_any _ (nl x) x w HA.out (lt_nl x) (by omega)).mono ?_; rintro e w3 ⟨v, rfl, hv, hOn, -, -⟩; have HV := Lib.hid hv; have HOn := Lib.hid hOn; clear hv hOn)
    first | go_ret | go_returns | go_ret2
    exact ⟨_, _, rfl, Nv.nil _, HV.out, HOn.out, .inl rfl⟩
  · have hn0 := nl_pos hy0
    obtain ⟨p, hp⟩ : ∃ p, nl y = p + 1 := ⟨nl y - 1, by omega⟩
    obtain ⟨L, hL⟩ : ∃ L, nl x = p + L := ⟨nl x - p, by omega⟩
    have hd1 := dg_lt (y : Int) p
    have hd0 : 0 < dg (y : Int) p := by have := dg_top hy0; rw [hp] at this; simp at this; omega
    obtain ⟨b, o, rfl, hcell⟩ := hS p (by omega)
    have HTOP : Hid (dg (y : Int) p = y / 4294967296 ^ p) := (top1 (by have := lt_nl y; rw [hp] at this; exact this)).symm
    have HYG : Hid (4294967296 ^ p ≤ y) := by have := nl_ge hy0; rw [hp] at this; unfold Hid; simpa using this
    have HXL : Hid (x < 4294967296 ^ (p + L)) := by have := lt_nl x; rw [hL] at this; exact this
    have HP := Lib.hid hp
    have HL := Lib.hid hL
    have hni : ((nl y : Nat) : Int) - 1 = (p : Int) := by omega
    have hLi : ((nl x : Nat) : Int) - ((nl y : Nat) : Int) + 1 = (L : Int) := by omega
    have hL0 : 0 < L := by omega
    have hLb : L ≤ 1000000 := by omega
    clear hR hS hp hL
    generalize hne : nl y = n at *
    generalize hme : nl x = m at *
    have HNE := Lib.hid hne
    have HME := Lib.hid hme
    clear hne hme
    generalize hde : dg (y : Int) p = d at *
    have HDE := Lib.hid hde; clear hde
    go_enter Try.func56, Try.ntmps56
    go_hidden (go_wp2_with (first
      | (go_at_call 82; refine (lead_any d _ hd0 hd1).mono ?_; rintro e w' ⟨⟨s, t, rfl, hst, ht0, hds⟩, rfl⟩)
      | (go_at_call 83; ((with_reducible refine (shifted_n n (.slice (some ⟨b, o, none⟩) n cb) y s w HNE.out HB.out (by omega) (by omega)).mono ?_)); rintro e w1 ⟨rfl, hk1, hs1, hO1⟩; have HK1 := Lib.hid hk1; have HS1 := Lib.hid hs1; have HO1 := Lib.hid hO1; clear hk1 hs1 hO1)
      | (go_at_call 83; ((with_reducible refine (shifted_n m (.slice oa m ca) x s w1 HME.out (HA.out.on HO1.out) (by omega) (by omega)).mono ?_)); rintro e w2 ⟨rfl, hk2, hs2, hO2⟩; have HK2 := Lib.hid hk2; have HS2 := Lib.hid hs2; have HO2 := Lib.hid hO2; clear hk2 hs2 hO2; have hmk := make_run L (by omega) w2)))
    clear hmk
    have HST := Lib.hid hst
    have HDB : Hid (y * 2 ^ s < 4294967296 ^ n) := by have := norm_fits HTOP.out hst hds; unfold Hid; rw [HP.out]; exact this
    have hs0 : 0 < 2 ^ s := Nat.pow_pos (by decide)
    have HD0 : Hid (0 < y * 2 ^ s / 4294967296 ^ p) := Nat.div_pos (Nat.le_trans HYG.out (Nat.le_mul_of_pos_right _ hs0)) (pw_pos p)
    have HDP : Hid (0 < y * 2 ^ s) := Nat.mul_pos hy0 hs0
    have HQ : Hid (x * 2 ^ s / (y * 2 ^ s) = x / y) := Nat.mul_div_mul_right _ _ hs0
    have HRM : Hid (x * 2 ^ s % (y * 2 ^ s) / 2 ^ s = x % y) := by unfold Hid; rw [Nat.mul_mod_mul_right, Nat.mul_div_cancel _ hs0]
    have HXY : Hid (x < y * 4294967296 ^ L) := by
      have h := HXL.out
      rw [Nat.pow_add] at h
      exact Nat.lt_of_lt_of_le h (Nat.mul_le_mul_right _ HYG.out)
    have HA0 : Hid (x * 2 ^ s % (y * 2 ^ s * 4294967296 ^ L) = x * 2 ^ s) := by
      unfold Hid
      rw [Nat.mod_eq_of_lt]
      rw [Nat.mul_right_comm]
      exact Nat.mul_lt_mul_of_pos_right HXY.out hs0
    have HQL : Hid (x / y < 4294967296 ^ L) := by
      unfold Hid
      rw [Nat.div_lt_iff_lt_mul hy0, Nat.mul_comm]; exact HXY.out
    have HML : Hid (m = n + (L - 1) ∧ p + 1 = n) := by have h1 := HNE.out; have h2 := HME.out; have h3 := HP.out; have h4 := HL.out; unfold Hid; omega
    clear hs0 hds hst HTOP HYG HXL HXY hge hni hLi hcell hd0 hd1
    have hon : On w2 (w2.alloc (Obj.cells (madeCells #[Value.int IntKind.u32 0] L) 54)) := (On.refl w2).alloc _
    have hk3 := Bk.made w2 L
    obtain ⟨w3, hw3⟩ : ∃ w3, w3 = w2.alloc (Obj.cells (madeCells #[Value.int IntKind.u32 0] L) 54) := ⟨_, rfl⟩
    rw [← hw3] at hon hk3 ⊢
    clear hw3
    have hsz1 : w.heap.size < w1.heap.size := by have := HS1.out; omega
    have hsz2 : w1.heap.size < w2.heap.size := by have := HS2.out; omega
    have hst0 : Hid (Bk w3 w1.heap.size (m + 1) ((x * 2 ^ s % (y * 2 ^ s * 4294967296 ^ L) : Nat) : Int) ∧ Bk w3 w2.heap.size L ((4294967296 ^ L * (x / y / 4294967296 ^ L) : Nat) : Int) ∧ Rd w3 (some ⟨w.heap.size, 0, none⟩) n ((y * 2 ^ s : Nat) : Int) ∧ On w w3) := by
      refine ⟨by rw [HA0.out]; exact HK2.out.on hon hsz2, ?_, (HK1.out.on (HO2.out.trans hon) hsz1).rd (by omega), HO1.out.trans (HO2.out.trans hon)⟩
      rw [Nat.div_eq_of_lt HQL.out, Nat.mul_zero]
      exact hk3
    clear hon hk3 HK1 HK2 HA0
    generalize hB1 : w.heap.size = B1 at *
    generalize hB2 : w1.heap.size = B2 at *
    generalize hB3 : w2.heap.size = B3 at *
    have HB123 : Hid (w.heap.size = B1 ∧ B1 < B2 ∧ B2 < B3) := ⟨hB1, hsz1, hsz2⟩
    clear hB1 hB2 hB3 hsz1 hsz2 HS1 HS2 HO1 HO2
    go_loopw [10] (fun vi wr => ∃ k : Nat, vi = .int .i64 ((k : Int) - 1) ∧ k ≤ L ∧ Hid (Bk wr B2 (m + 1) ((x * 2 ^ s % (y * 2 ^ s * 4294967296 ^ k) : Nat) : Int) ∧ Bk wr B3 L ((4294967296 ^ k * (x / y / 4294967296 ^ k) : Nat) : Int) ∧ Rd wr (some ⟨B1, 0, none⟩) n ((y * 2 ^ s : Nat) : Int) ∧ On w wr)) (fun vi _ => (intOf vi + 1).toNat)
    case atStart => exact ⟨L, rfl, Nat.le_refl _, hst0⟩
    case round =>
      clear hst0
      obtain ⟨k, rfl, hk, HW⟩ := hrel
      cases k with
      | zero =>
        have H0 : Hid (x * 2 ^ s % (y * 2 ^ s * 4294967296 ^ 0) = x * 2 ^ s % (y * 2 ^ s)) := by unfold Hid; rw [Nat.pow_zero, Nat.mul_one]
        have HQ0 : Hid (4294967296 ^ 0 * (x / y / 4294967296 ^ 0) = x / y) := by unfold Hid; rw [Nat.pow_zero, Nat.one_mul, Nat.div_one]
        rw [H0.out, HQ0.out] at HW
        have HRB : Hid (x * 2 ^ s % (y * 2 ^ s) < 4294967296 ^ (m + 1)) := Nat.lt_of_lt_of_le (Nat.lt_trans (Nat.mod_lt _ HDP.out) HDB.out) (Nat.pow_le_pow_right (by decide) (by have := HML.out; omega))
        have HXR : Hid (x % y < 4294967296 ^ (m + 1)) := by have h := HRB.out; rw [← HRM.out]; exact Nat.lt_of_le_of_lt (Nat.div_le_self _ _) h
        go_wp2_with (first
          | (go_at_call 85; refine (shiftBack_any B2 0 (m + 1) (m + 1) (x * 2 ^ s % (y * 2 ^ s)) s t wr (Nat.le_refl _) (by omega) HW.out.1.cells HW.out.1.free HST.out ht0 HRB.out).mono ?_; rintro e w4 ⟨⟨v, rfl⟩, hw4⟩; rw [HRM.out] at hw4; have H4 := Lib.hid hw4; clear hw4; have HK : Hid (Bk w4 B3 L ((x / y : Nat) : Int)) := HW.out.2.1.ap H4.out.ap (by have := HB123.out.2.2; omega))
          | (go_at_call 73; refine (trim_z B3 L L (x / y) w4 (HK.out.lv (Nat.le_refl _) (by omega)) HQL.out).mono ?_; rintro e w5 ⟨⟨v', rfl, hv', hz'⟩, rfl⟩; have HV := Lib.hid hv'; have HZ' := Lib.hid hz'; clear hv' hz')
          | (go_at_call 81; refine (copied_any _ (m + 1) (x % y) w4 (H4.out.lv (Nat.le_refl _) (by omega)) HXR.out (by omega)).mono ?_; rintro e w6 ⟨v, rfl, hv, hOn, -, -⟩; have HV2 := Lib.hid hv; have HOn := Lib.hid hOn; clear hv hOn))
        first | go_ret | go_returns | go_ret2
        exact ⟨_, _, rfl, HV.out.on HOn.out, HV2.out, (HW.out.2.2.2.ap (by have := HB123.out; omega) H4.out.ap).trans HOn.out, HZ'.out⟩
      | succ i =>
        have hki : ((i + 1 : Nat) : Int) - 1 = (i : Int) := by omega
        rw [hki]
        have HR := Lib.hid (round_any (A := x * 2 ^ s) (i := i) (L := L) (m := n + L) HDB.out HDP.out (by omega) rfl)
        have HC := Lib.hid (HW.out.1.sub i (n + 1) (by have := HML.out; omega))
        have HNE1 : Hid (∀ b o, some (⟨B1, 0, none⟩ : Addr) = some ⟨b, o, none⟩ → 0 < n → b ≠ B2) := by
          intro b o h _ hb
          simp only [Option.some.injEq, Addr.mk.injEq] at h
          have := HB123.out.2.1
          omega
        have hlm : i + n + 1 ≤ m + 1 := by have := HML.out; omega
        have hlL : i < L := by omega
        obtain ⟨z, hz⟩ : ∃ z : Nat, z = dg ((x / y : Nat) : Int) i := ⟨_, rfl⟩
        have hzl : z < 4294967296 := by rw [hz]; exact dg_lt _ _
        have HZ := Lib.hid hz; clear hz
        go_wp2_with (go_at_call 84; rw [show i + n + 1 - i = n + 1 by omega]; refine (takeAll_n n B2 i (n + 1) n p (x * 2 ^ s % (y * 2 ^ s * 4294967296 ^ (i + 1)) / 4294967296 ^ i) (y * 2 ^ s) _ wr HML.out.2.symm (Nat.le_refl _) (by omega) HC.out HW.out.1.free HW.out.2.2.1 HNE1.out HDB.out HD0.out HR.out.1).mono ?_; rintro e wq ⟨rfl, hwq⟩; rw [HR.out.2.1, HQ.out, ← HZ.out]; have HWQ := Lib.hid hwq; clear hwq; have hk3 : Bk wq B3 L _ := HW.out.2.1.ap HWQ.out.ap (by have := HB123.out.2.2; omega); have hc3 := hk3.cells i hlL; rw [Nat.zero_add, up_limbs, if_pos (Nat.lt_succ_self i)] at hc3; have hf3 := hk3.free i; have HK3 := Lib.hid hk3; clear hk3; have HC3 := Lib.hid hc3)
        have HW1 : Hid (Win B3 i 1 (z : Int) wq (wq.setCell ⟨B3, i, none⟩ (.int .u32 (z : Int)))) := Win.one HC3.out HK3.out.free z hzl
        have HN : Hid (Bk (wq.setCell ⟨B3, i, none⟩ (.int .u32 (z : Int))) B2 (m + 1) ((x * 2 ^ s % (y * 2 ^ s * 4294967296 ^ i) : Nat) : Int) ∧ Bk (wq.setCell ⟨B3, i, none⟩ (.int .u32 (z : Int))) B3 L ((4294967296 ^ i * (x / y / 4294967296 ^ i) : Nat) : Int) ∧ Rd (wq.setCell ⟨B3, i, none⟩ (.int .u32 (z : Int))) (some ⟨B1, 0, none⟩) n ((y * 2 ^ s : Nat) : Int) ∧ On w (wq.setCell ⟨B3, i, none⟩ (.int .u32 (z : Int)))) := by
          have b1 := HB123.out.1
          have b2 := HB123.out.2.1
          have b3 := HB123.out.2.2
          refine ⟨(HW.out.1.part HWQ.out HR.out.2.2.1 (fun j hj => HR.out.2.2.2.1 j) (fun j hj _ => HR.out.2.2.2.2 j hj) (by have := HML.out; omega)).ap HW1.out.ap (by omega), ?_, ?_, ?_⟩
          · refine HK3.out.part HW1.out (fun j hj => ?_) (fun j hj => ?_) (fun j hj _ => ?_) (by omega)
            · rw [up_limbs, up_limbs, if_pos hj, if_pos (by omega)]
            · obtain rfl : j = 0 := by omega
              rw [up_limbs, if_neg (by omega), Nat.add_zero, ← HZ.out, dg_nat]
              simp; omega
            · rw [up_limbs, up_limbs, if_neg (by omega), if_neg (by omega)]
          · refine (HW.out.2.2.1.ap HWQ.out.ap (fun b o h _ => ?_)).ap HW1.out.ap (fun b o h _ => ?_)
            · simp only [Option.some.injEq, Addr.mk.injEq] at h; omega
            · simp only [Option.some.injEq, Addr.mk.injEq] at h; omega
          · exact (HW.out.2.2.2.ap (by omega) HWQ.out.ap).ap (by omega) HW1.out.ap
        clear HW1 HK3 hc3 hf3 HC3 HWQ HC HR HW
        go_roundw
        case rel => exact ⟨i, by go_num, by omega, HN⟩
        case measure => simp [intOf]; try omega
theorem divide_any (va vb : Value) (x y : Nat) (w : World) (ha : Nv w va x) (hb : Nv w vb y) (hy0 : 0 < y) (hx : nl x ≤ 1000000) :
    Calls Try.prog 56 #[va, vb] w fun e w' => ∃ vq vr, e = .returned (.tuple #[vq, vr]) ∧ Nv w' vq (x / y) ∧ Nv w' vr (x % y) ∧ On w w' :=
  (divide_z va vb x y w ha hb hy0 hx).mono fun e w' ⟨vq, vr, h1, h2, h3, h4, _⟩ => ⟨vq, vr, h1, h2, h3, h4⟩
end Go.Proofs.Ytdgmlmcllkgemaa
