/- The sponge's Hash: what the call returns. -/
import Derived.Test.YtbmieoedpgdlpaaDoorSchunk
namespace Go.Proofs.YtbmieoedpgdlpaaDoor
open Go.RowKit Go.Shelf
set_option linter.unusedVariables false
attribute [local go_sem] Oper.semAt_some

theorem wpListIn_store_mid {P : Program} {m : Nat} {ops : Array Oper} {rest : List Oper} {op : Oper} {a : Act} {w : World} {Q : Exit → Act → World → Prop} (hgd : op.guard = none) (ty : TypeId) (x y : Operand) (ho : op.op = .store ty x y)
    (b o : Nat) (cells : Array Value) (hx : a.eval x = .pointer (some ⟨b, o, none⟩)) (hy : a.eval y = .agg cells)
    (ht : w.there b o cells.size) (hi : (P.info? ty).map (·.size) = some cells.size) (h1 : cells.all (·.oneCell') = true)
    (h : wpListIn Fence.wide m P ops Q rest (a.put op.dst undef) (w.setCells b o cells.toList)) : wpListIn Fence.wide m P ops Q (op :: rest) a w :=
  wpListIn_plain hgd fun K hK => by
    refine ⟨fun _ _ => trivial, ?_⟩
    rw [Oper.semAt_eq _ _ _ (by rw [ho]; intro c h; cases h)]
    unfold execOp
    simp only [ho, hx, hy, Instr.storeAt, Instr.sureAddr, Sem.run_bind, Sem.run_pure, Result.andThen_ok, run_storeVar_mid w b o ty cells ht hi h1]
    exact hK _ _ h

/-- One pair of a list. -/
def stepP (f : Int) (l : List Nat) (s : St) (x : Nat) : St := permS f ⟨(s.a + l.getD (2 * x) 0) % pOf f, (s.b + l.getD (2 * x + 1) 0) % pOf f, s.c, s.d⟩
def hashP (f : Int) (l : List Nat) (s : St) (pre : List Nat) : St := pre.foldl (stepP f l) s
theorem hashP_snoc (f : Int) (l : List Nat) (s : St) (pre : List Nat) (x : Nat) : hashP f l s (pre ++ [x]) = stepP f l (hashP f l s pre) x := by unfold hashP; rw [List.foldl_append]; rfl
theorem hashP_range (f : Int) (l : List Nat) : ∀ k, hashP f l (hashTo f l 0) (List.range k) = hashTo f l k := by
  intro k
  induction k with
  | zero => rfl
  | succ k ih => rw [List.range_succ, hashP_snoc, ih]; rfl
theorem hashP_els (f : Int) (l : List Nat) (s : St) (pre : List Nat) (hp : 0 < pOf f) (hs : Els f s) : Els f (hashP f l s pre) := by
  rcases List.eq_nil_or_concat pre with rfl | ⟨pre', x, rfl⟩
  · exact hs
  · rw [List.concat_eq_append, hashP_snoc]; exact permS_els _ _ hp

/-- A call that hands over the pairs of no list hands over nothing. -/
theorem chunk_none (m : Nat) (a : Option Addr) (cap l B C : Nat) (J : List Nat → World → Prop) (W : World) (hB : Boxed W B 30 (.slice a 0 cap)) (hC : Boxed W C 3 (.int .i64 2)) (h0 : J [] W) :
    CallsIn Fence.wide m Tryd.prog 54 #[.func (.yield l) #[] #[], .pointer (some ⟨B, 0, none⟩), .pointer (some ⟨C, 0, none⟩)] W fun e W' => (∃ v, e = .returned v) ∧ J [] W' := by
  refine callsIn_of_wp Tryd.func54 rfl trivial ?_ rfl
  simp only [Tryd.ntmps54, List.size_toArray, List.length_cons, List.length_nil, Nat.reduceAdd, Nat.reduceSub, Array.replicate_succ, Array.replicate_zero, List.push_toArray, List.append_toArray, List.nil_append, List.cons_append]
  have hbc := hB.cell
  have hcc := hC.cell
  have HJ := Lib.hid h0
  clear hB hC h0
  gi_wp2
  gi_loopw [4] (fun i wr => i = .int .i64 0 ∧ Hid (wr = W)) (fun i _ => 0)
  case atStart => exact ⟨rfl, rfl⟩
  case round =>
    obtain ⟨rfl, HW⟩ := hrel
    rw [HW.out]
    gi_wp2
    go_end0
    exact ⟨⟨_, rfl⟩, HJ.out⟩

theorem Mx.store4 {f : Int} {B C : Nat} {w : World} (h : Mx f B w) (hne : B ≠ C) (u0 u1 u2 u3 : Value) :
    Mx f B ((((w.setCell ⟨C, 0, none⟩ u0).setCell ⟨C, 1, none⟩ u1).setCell ⟨C, 2, none⟩ u2).setCell ⟨C, 3, none⟩ u3) :=
  h.kept (by simp [World.setCell]) fun o => World.cell?_of_block (by rw [Below.heap_setCell _ _ _ _ hne, Below.heap_setCell _ _ _ _ hne, Below.heap_setCell _ _ _ _ hne, Below.heap_setCell _ _ _ _ hne])
/-- What a round of Hash leaves as it was. -/
def Rd (B n₀ C D : Nat) (W W' : World) : Prop := KeepsFrom B W W' ∧ KeepC n₀ C D W W'
theorem Rd.refl (B n₀ C D : Nat) (W : World) : Rd B n₀ C D W W := ⟨KeepsFrom.refl _ _, KeepC.refl _ _ _ _⟩
theorem Rd.trans {B n₀ C D : Nat} {U V W : World} (h : Rd B n₀ C D U V) (k : Rd B n₀ C D V W) : Rd B n₀ C D U W := ⟨h.1.trans k.1, h.2.trans k.2⟩
theorem Rd.drewN {B n₀ C D : Nat} {W W' : World} (h : Rd B n₀ C D W W') (q : Nat) : Rd B n₀ C D W (W'.drewN q) := ⟨h.1.trans ⟨Nat.le_refl _, fun _ _ _ h _ => h⟩, h.2.drewN q⟩
theorem Rd.setCell {B n₀ C D : Nat} {W W' : World} (h : Rd B n₀ C D W W') (p : Addr) (u : Value) (hn : n₀ ≤ p.block) (hc : C ≠ p.block) (hd : D ≠ p.block) : Rd B n₀ C D W (W'.setCell p u) :=
  h.trans ⟨(KeepsOthers.setCell _ _ _).from _, (Below.refl _ _).setCell hn _, Below.heap_setCell _ _ _ _ hc, Below.heap_setCell _ _ _ _ hd⟩
theorem Rd.store4 {B n₀ C D S : Nat} {W W' : World} (h : Rd B n₀ C D W W') (hn : n₀ ≤ S) (hc : C ≠ S) (hd : D ≠ S) (u0 u1 u2 u3 : Value) :
    Rd B n₀ C D W ((((W'.setCell ⟨S, 0, none⟩ u0).setCell ⟨S, 1, none⟩ u1).setCell ⟨S, 2, none⟩ u2).setCell ⟨S, 3, none⟩ u3) := (((h.setCell _ _ hn hc hd).setCell _ _ hn hc hd).setCell _ _ hn hc hd).setCell _ _ hn hc hd
theorem Rd.on {B n₀ C D : Nat} {W W' W'' : World} (h : Rd B n₀ C D W W') (k : On W' W'') (hn : n₀ ≤ W'.heap.size) (hc : C < W'.heap.size) (hd : D < W'.heap.size) : Rd B n₀ C D W W'' :=
  h.trans ⟨⟨k.size, fun j o _ hj _ => (k.2.block j (Array.getElem?_eq_some_iff.1 hj).1).trans hj⟩, k.2.mono hn, k.2.block C hc, k.2.block D hd⟩
/-- What holds between two rounds of Hash. -/
structure HI (f : Int) (l : List Nat) (σ : St) (N h0 S Z : Nat) (w : World) (pre : List Nat) (W : World) : Prop where
  st : Blk S W (fl4 (ix (hashP f l σ pre)))
  mx : Mx f N W
  rs : Blk h0 W [0, 0]
  bel : Below w.heap.size w W
  sz : Z ≤ W.heap.size
theorem HI.own {f : Int} {l : List Nat} {σ : St} {N h0 S Z B : Nat} {w : World} (h : h0 < B ∧ N < B ∧ S < B ∧ w.heap.size ≤ B) : OwnFrom B (HI f l σ N h0 S Z w) := by
  intro pre W W' row hs hg hr
  have ne : ∀ b, b < B → some b ≠ row := fun b hb e => by have := (hr b e.symm).1; omega
  obtain ⟨h1, h2, h3, h4⟩ := h
  exact ⟨hs.st.kept hg.size (hg.block _ hs.st.1 (ne _ h3)), hs.mx.kept hg.size (fun o => World.cell?_of_block (hg.block _ hs.mx.lt (ne _ h2))), hs.rs.kept hg.size (hg.block _ hs.rs.1 (ne _ h1)),
    hs.bel.grown hg hs.bel.size (fun k e => by have := (hr k e).1; omega), Nat.le_trans hs.sz hg.size⟩

set_option maxRecDepth 100000 in
set_option maxHeartbeats 4000000 in
theorem hash_yes (f : Int) (l : List Nat) (a : Option Addr) (cap : Nat) (w : World) (hT : Tab w) (hv : validB f = true) (hR : Reads w (.slice a l.length cap) l) (hcap : l.length ≤ cap) (hcap2 : cap ≤ 9223372036854775807) (hln0 : l.length ≤ 9223372036854775800) :
    Calls Tryd.prog 21 #[.int .i64 f, .slice a l.length cap] w fun e w' => e = .returned (.agg #[.int .u64 (((hashS f l).a : Nat) : Int), .int .u64 (((hashS f l).b : Nat) : Int)]) ∧ On w w' := by
  refine (callsIn_wide (n := 10)).1 ?_
  have hp := (valid_iff f).1 hv
  have hle := pOf_le f
  have HV := Lib.hid hv
  have HR0 := Lib.hid hR
  have hB0 := blk_new2 w 0 0 32
  obtain ⟨W0, hW0⟩ : ∃ W0, W0 = w.alloc (.cells #[.int .u64 0, .int .u64 0] 32) := ⟨_, rfl⟩
  have hB0' : Blk w.heap.size W0 [0, 0] := by rw [hW0]; exact hB0
  have HB := Lib.hid hB0'
  have HO0 : Hid (On w W0) := by rw [hW0]; exact (On.refl hT).alloc _
  have HW0 := Lib.hid hW0
  clear hv hR hB0 hW0 hT hB0'
  have hln : l.length ≤ 9223372036854775800 := by omega
  generalize hn : l.length = n at *
  have HN := Lib.hid hn
  clear hn
  refine callsIn_of_wp_marks Tryd.func21 rfl trivial ?_ rfl
  simp only [Tryd.ntmps21, List.size_toArray, List.length_cons, List.length_nil, Nat.reduceAdd, Nat.reduceSub, Array.replicate_succ, Array.replicate_zero, List.push_toArray, List.append_toArray, List.nil_append, List.cons_append]
  gi_wp2_with fail
  rw [← HW0.out]
  refine ⟨trivial, ?_⟩
  with_reducible refine (callsIn_wide.2 (mixer_any f W0 HO0.out.tab)).mono ?_
  rintro e w1 ⟨rfl, hO1⟩
  rw [HV.out]
  have HO1 := Lib.hid (HO0.out.trans hO1)
  have HR1 := Lib.hid (HB.out.on hO1)
  have HNN := Lib.hid (mx_new (f := f) HO1.out.tab zerM 43 zerM_size w1.heap.size rfl)
  have hN1 : w.heap.size < w1.heap.size := HR1.out.1
  clear hO1
  obtain ⟨V, hV⟩ : ∃ V, V = mixL f := ⟨_, rfl⟩
  have HV1 : Hid (V.toArray.all (·.oneCell') = true) := by rw [hV]; exact mixL_one f
  have HV2 : Hid (V.length = 36) := by rw [hV]; exact mixL_len f
  rw [← hV] at HNN ⊢
  clear hV
  gi_wp2_with (refine wpListIn_store_mid rfl 43 (.tmp 5) (.tmp 14) rfl w1.heap.size 0 V.toArray rfl rfl (by show World.there _ _ _ V.length; rw [HV2.out]; exact HNN.out.1) (by show _ = some V.length; rw [HV2.out]; exact info_mix) HV1.out ?_)
  show _ ∧ CallsIn _ _ _ _ _ ((w1.alloc (.cells zerM 43)).setCells w1.heap.size 0 V) _
  have HON := Lib.hid HNN.out.2.1
  have HM := Lib.hid (HNN.out.2.2 HV.out)
  clear HNN
  generalize (w1.alloc (.cells zerM 43)).setCells w1.heap.size 0 V = w2 at *
  have HR2 := Lib.hid (HR1.out.on HON.out)
  have HO2 := Lib.hid (HO1.out.trans HON.out)
  clear HO1 HON HB HW0 HO0 HR1
  generalize w1.heap.size = N at *
  obtain ⟨y, hy⟩ : ∃ y, y = hashTo f l 0 := ⟨_, rfl⟩
  have hym : y = modS f ⟨0, 0, n, 0⟩ := by rw [hy, ← HN.out]; unfold hashTo modS; simp only [Nat.zero_mod]
  have HEL : Hid (Calls Tryd.prog 35 #[.pointer (some ⟨N, 0, none⟩), .agg #[.int .u64 0, .int .u64 0, .int .u64 (n : Int), .int .u64 0]] w2 fun e w' =>
      e = .returned (.agg #[.int .u64 (y.a : Int), .int .u64 (y.b : Int), .int .u64 (y.c : Int), .int .u64 (y.d : Int)]) ∧ On w2 w') := elements_m f N ⟨0, 0, n, 0⟩ y w2 hym HO2.out.tab HM.out ⟨Nat.zero_le _, Nat.zero_le _, by show n ≤ _; omega, Nat.zero_le _⟩
  have hye : Els f y := by rw [hy]; exact hashTo_els f l 0 hp
  have HY := Lib.hid hy
  clear hy hym
  refine ⟨trivial, ?_⟩
  with_reducible refine (callsIn_wide.2 HEL.out).mono ?_
  rintro e w3 ⟨rfl, hO3⟩
  have HO3 := Lib.hid (HO2.out.trans hO3)
  have HR3 := Lib.hid (HR2.out.on hO3)
  have HM3 := Lib.hid (HM.out.on hO3)
  clear hO3 HEL HR2 HO2 HM
  have HS4 := Lib.hid (blk_new4 w3 y.a y.b y.c y.d 23)
  have HO34 : Hid (On w3 (w3.alloc (.cells #[.int .u64 (y.a : Int), .int .u64 (y.b : Int), .int .u64 (y.c : Int), .int .u64 (y.d : Int)] 23))) := (On.refl HO3.out.tab).alloc _
  rcases Nat.eq_zero_or_pos n with h0 | h0
  · have h0' : ((n : Int) == 0) = true := by simp; omega
    have H0 := Lib.hid h0
    clear h0
    gi_wp2_with fail
    generalize hw4 : w3.alloc (.cells #[.int .u64 (y.a : Int), .int .u64 (y.b : Int), .int .u64 (y.c : Int), .int .u64 (y.d : Int)] 23) = w4 at *
    clear hw4
    have hz4 : w3.heap.size < w4.heap.size := HS4.out.1
    have HP := Lib.hid (perm_s f N y w4 HO34.out.tab (HM3.out.on HO34.out) hye)
    refine ⟨trivial, ?_⟩
    with_reducible refine (callsIn_wide.2 HP.out).mono ?_
    rintro e w5 ⟨rfl, hO5⟩
    have HS5 := Lib.hid (HS4.out.on hO5)
    have HO5 := Lib.hid ((HO3.out.trans HO34.out).trans hO5)
    have HR5 := Lib.hid ((HR3.out.on HO34.out).on hO5)
    have HM5 := Lib.hid ((HM3.out.on HO34.out).on hO5)
    have hz5 : w3.heap.size < w5.heap.size := HS5.out.1
    have hzw0 : w.heap.size < w3.heap.size := HR3.out.1
    have hzn0 : N < w3.heap.size := HM3.out.lt
    clear hO5 HO34 HS4 HP
    obtain ⟨z, hz⟩ : ∃ z, z = upS f y 8 := ⟨_, rfl⟩
    rw [← hz]
    have HZ := Lib.hid hz
    clear hz
    obtain ⟨s0, s1, s2, s3⟩ := HS5.out.cells4
    obtain ⟨f0, f1, f2, f3⟩ := HS5.out.free4
    have HST := Lib.hid (HS5.out.store4 z)
    have HOT := Lib.hid (HO5.out.store4 (C := w3.heap.size) HO3.out.size (.int .u64 (z.a : Int)) (.int .u64 (z.b : Int)) (.int .u64 (z.c : Int)) (.int .u64 (z.d : Int)))
    have HRT := Lib.hid (HR5.out.other4 (C := w3.heap.size) (by omega) (.int .u64 (z.a : Int)) (.int .u64 (z.b : Int)) (.int .u64 (z.c : Int)) (.int .u64 (z.d : Int)))
    have HMT := Lib.hid (HM5.out.store4 (C := w3.heap.size) (by omega) (.int .u64 (z.a : Int)) (.int .u64 (z.b : Int)) (.int .u64 (z.c : Int)) (.int .u64 (z.d : Int)))
    gi_wp2_with fail
    generalize (((w5.setCell ⟨w3.heap.size, 0, none⟩ (.int .u64 (z.a : Int))).setCell ⟨w3.heap.size, 1, none⟩ (.int .u64 (z.b : Int))).setCell ⟨w3.heap.size, 2, none⟩ (.int .u64 (z.c : Int))).setCell ⟨w3.heap.size, 3, none⟩ (.int .u64 (z.d : Int)) = w6 at *
    refine ⟨trivial, ?_⟩
    with_reducible refine (callsIn_wide.2 (chunk_any a n cap w6)).mono ?_
    rintro e w7 ⟨rfl, hw7⟩
    have hz6 : w3.heap.size < w6.heap.size := HST.out.1
    clear s0 s1 s2 s3 f0 f1 f2 f3 HS5 HO5 HR5 HM5
    gi_wp2_with fail
    subst hw7
    obtain ⟨σ, hσ⟩ : ∃ σ, σ = z := ⟨_, rfl⟩
    obtain ⟨Wc, hWc⟩ : ∃ Wc, Wc = ((w6.alloc (.cells #[.slice a n cap] 30)).alloc (.cells #[.int .i64 2] 3)) := ⟨_, rfl⟩
    rw [← hWc]
    have hO6c : On w6 Wc := by rw [hWc]; exact ((On.refl HOT.out.tab).alloc _).alloc _
    have hbx : Boxed Wc w6.heap.size 30 (.slice a n cap) := by rw [hWc]; exact (Boxed.new _ _ _).alloc _
    have hby : Boxed Wc (w6.heap.size + 1) 3 (.int .i64 2) := by rw [hWc]; have := Boxed.new (w6.alloc (.cells #[.slice a n cap] 30)) 3 (.int .i64 2); simpa using this
    have hsz : Wc.heap.size = w6.heap.size + 1 + 1 := by rw [hWc]; simp
    have hzw : w.heap.size < w3.heap.size := HR3.out.1
    have hzn : N < w3.heap.size := HM3.out.lt
    have HI0 : Hid (HI f l σ N w.heap.size w3.heap.size Wc.heap.size w [] Wc) := ⟨by rw [hσ]; exact HST.out.on hO6c, HMT.out.on hO6c, HRT.out.on hO6c, (HOT.out.trans hO6c).2, Nat.le_refl _⟩
    have HBX := Lib.hid hbx; have HBY := Lib.hid hby
    have HOC := Lib.hid (HOT.out.trans hO6c)
    have HSG := Lib.hid hσ
    clear hWc hO6c hbx hby hσ HST HMT HRT HOT
    refine wpIn_rangeFunc_ownG (F := Fence.wide) (n := 10) (P := Tryd.prog) rfl (by omega) (gf := 54) (lb := #[.pointer (some ⟨w6.heap.size, 0, none⟩), .pointer (some ⟨w6.heap.size + 1, 0, none⟩)]) rfl trivial (enters_of Tryd.func54 (by kernel_rfl) rfl)
      (encs := fun x : Nat => #[pairV 0 0 0 x]) (Kp := KeepC w.heap.size w6.heap.size (w6.heap.size + 1)) (S := fun ys => ys = List.range ((0 + 1) / 2)) (Sp := fun pre => ∃ k, k ≤ (0 + 1) / 2 ∧ pre = List.range k) (N := (0 + 1) / 2) (w0 := Wc)
      ?seq (fun h k => h.trans k) ?kb (Below.refl _ _) (fun _ => rfl) (HI f l σ N w.heap.size w3.heap.size Wc.heap.size w) (fun _ _ _ => False)
      (HI.own ⟨by omega, by omega, by omega, by omega⟩) (fun c _ _ _ _ h _ _ => h.elim) HI0.out
      (fun x => { tmps := #[.int .i64 f, .slice a n cap, undef, undef, .pointer (some ⟨w.heap.size, 0, none⟩), .pointer (some ⟨N, 0, none⟩), .bool true, .pointer (some ⟨w3.heap.size, 0, none⟩), (pairV 0 0 0 x), undef, undef,
          .tuple #[.agg V.toArray, .bool true], .int .i64 f, .tuple #[.agg V.toArray, .bool true], .agg V.toArray, .bool true, .bool true, .bool false, undef, .slice a n cap, .int .i64 (n : Int), .int .u64 (n : Int),
          .agg #[.int .u64 0, .int .u64 0, .int .u64 (n : Int), .int .u64 0], .agg #[.int .u64 (y.a : Int), .int .u64 (y.b : Int), .int .u64 (y.c : Int), .int .u64 (y.d : Int)], .slice a n cap, .int .i64 (n : Int), .bool true, .agg #[.int .u64 (y.a : Int), .int .u64 (y.b : Int), .int .u64 (y.c : Int), .int .u64 (y.d : Int)], .agg #[.int .u64 (z.a : Int), .int .u64 (z.b : Int), .int .u64 (z.c : Int), .int .u64 (z.d : Int)], .slice a n cap,
          .func (.func 54) #[] #[.pointer (some ⟨w6.heap.size, 0, none⟩), .pointer (some ⟨w6.heap.size + 1, 0, none⟩)], (pairV 0 0 0 x), undef, undef, undef, undef, undef, undef, undef, undef, undef, undef, undef, undef, undef, undef, undef, undef, undef, undef, undef, undef, undef, undef, undef, undef], defers := [] })
      ?assign ?body ?done ?stop
    case seq =>
      intro l' J Jx W hW _ _ hY' hj0
      have hbW : Boxed W w6.heap.size 30 (.slice a 0 cap) := by have h := (hW.block w6.heap.size (by omega)).trans HBX.out; rwa [H0.out] at h
      refine (chunk_none 9 a cap l' w6.heap.size (w6.heap.size + 1) J W hbW ((hW.block (w6.heap.size + 1) (by omega)).trans HBY.out) hj0).mono ?_
      rintro e W' ⟨he, hj⟩
      exact ⟨he, .inl ⟨[], rfl, hj⟩⟩
    case body =>
      intro l' pre x W _ hlen
      exact absurd hlen (by simp)
    case kb =>
      intro W l' o o' hl ho hc _
      refine ⟨(Below.refl _ _).grown (grownBy_putObj' W l' o') ?_ (fun k e => by cases e; omega), World.putObj_heap_other (by omega), World.putObj_heap_other (by omega)⟩
      have := (Array.getElem?_eq_some_iff.1 ho).1
      omega
    case assign =>
      intro l' x W K hK
      gi_wp2
      exact hK
    case stop =>
      intro D c pre W _ _ h _
      exact h.elim
    case done =>
      rintro D ys W hD rfl hS hK
      have hFE : fl4 (ix (hashP f l σ (List.range ((0 + 1) / 2)))) = fl4 (ix (hashS f l)) := by
        have e1 : hashP f l σ (List.range ((0 + 1) / 2)) = σ := rfl
        rw [e1, HSG.out, HZ.out, HY.out]; unfold hashS; rw [if_pos (by rw [HN.out]; exact H0.out)]; unfold permS; rw [modS_id f _ (hashTo_els f l 0 hp)]
      have HSF := Lib.hid (hS.st.eq hFE)
      have HS := Lib.hid hS
      clear hS
      obtain ⟨t, ht⟩ : ∃ t, t = hashS f l := ⟨_, rfl⟩
      rw [← ht] at HSF
      have HT := Lib.hid ht
      clear ht
      obtain ⟨t0, t1, -, -⟩ := HSF.out.cells4
      obtain ⟨r0, r1⟩ := HS.out.rs.cells2
      have f0 := HS.out.rs.free 0
      have f1 := HS.out.rs.free 1
      gi_wp2
      have hK2 : ((W.setCell ⟨w.heap.size, 0, none⟩ (.int .u64 (t.a : Int))).setCell ⟨w.heap.size, 1, none⟩ (.int .u64 (t.b : Int))).heap[D]? = some (.deferred (some [])) := ((KeepsOthers.setCell W _ _).trans (KeepsOthers.setCell _ _ _)).same D _ hK rfl
      refine ⟨by simp, .inl ⟨_, _, rfl, run_takeDeferred hK2, ?_⟩⟩
      have hb2 := HS.out.rs.store2 t.a t.b
      obtain ⟨p0, p1⟩ := hb2.cells2
      have cr0 := cell_kept p0 (grownBy_putObj' _ D (.deferred none)) (fun r e => by cases e; exact ⟨_, hK2, rfl⟩)
      have cr1 := cell_kept p1 (grownBy_putObj' _ D (.deferred none)) (fun r e => by cases e; exact ⟨_, hK2, rfl⟩)
      have hbel : Below w.heap.size w ((W.setCell ⟨w.heap.size, 0, none⟩ (.int .u64 (t.a : Int))).setCell ⟨w.heap.size, 1, none⟩ (.int .u64 (t.b : Int))) := (HS.out.bel.setCell (by simp) _).setCell (by simp) _
      refine ⟨.agg #[.int .u64 (t.a : Int), .int .u64 (t.b : Int)], ?_, by rw [HT.out], ?_⟩
      · simp [results, Tryd.results21, go_sem, cr0, cr1]
      · exact ⟨HO3.out.1, hbel.trans (belowK_b (w := w) (Nat.le_refl _) _ D _ _ (by omega) hK2 rfl rfl)⟩
  · have h0' : ((n : Int) == 0) = false := by simp; omega
    obtain ⟨b, off, ha, hcl⟩ : ∃ b off, a = some ⟨b, off, none⟩ ∧ ∀ i, i < n → w.cell? ⟨b, off + i, none⟩ = some (.int .u64 ((l.getD i 0 : Nat) : Int)) := by
      obtain ⟨_, _, ⟨h1, _⟩ | ⟨b, off, c, h1, h2⟩⟩ := HR0.out
      · rw [h1] at HN; have := HN.out; simp at this; omega
      · simp only [Value.slice.injEq] at h1
        exact ⟨b, off, h1.1, fun i hi => h2 i (by rw [HN.out]; exact hi)⟩
    have HCL := Lib.hid hcl
    have HUL := Lib.hid HR0.out.1
    subst ha
    clear hcl
    gi_wp2_with fail
    generalize hw6 : w3.alloc (.cells #[.int .u64 (y.a : Int), .int .u64 (y.b : Int), .int .u64 (y.c : Int), .int .u64 (y.d : Int)] 23) = w6 at *
    clear hw6
    have HST : Hid (Blk w3.heap.size w6 (fl4 (ix y))) := HS4.out
    have HOT := Lib.hid (HO3.out.trans HO34.out)
    have HRT := Lib.hid (HR3.out.on HO34.out)
    have HMT := Lib.hid (HM3.out.on HO34.out)
    refine ⟨trivial, ?_⟩
    with_reducible refine (callsIn_wide.2 (chunk_any (some ⟨b, off, none⟩) n cap w6)).mono ?_
    rintro e w7 ⟨rfl, hw7⟩
    have hz6 : w3.heap.size < w6.heap.size := HST.out.1
    clear HS4 HO34
    gi_wp2_with fail
    subst hw7
    obtain ⟨σ, hσ⟩ : ∃ σ, σ = y := ⟨_, rfl⟩
    obtain ⟨Wc, hWc⟩ : ∃ Wc, Wc = ((w6.alloc (.cells #[.slice (some ⟨b, off, none⟩) n cap] 30)).alloc (.cells #[.int .i64 2] 3)) := ⟨_, rfl⟩
    rw [← hWc]
    have hO6c : On w6 Wc := by rw [hWc]; exact ((On.refl HOT.out.tab).alloc _).alloc _
    have hbx : Boxed Wc w6.heap.size 30 (.slice (some ⟨b, off, none⟩) n cap) := by rw [hWc]; exact (Boxed.new _ _ _).alloc _
    have hby : Boxed Wc (w6.heap.size + 1) 3 (.int .i64 2) := by rw [hWc]; have := Boxed.new (w6.alloc (.cells #[.slice (some ⟨b, off, none⟩) n cap] 30)) 3 (.int .i64 2); simpa using this
    have hsz : Wc.heap.size = w6.heap.size + 1 + 1 := by rw [hWc]; simp
    have hzw : w.heap.size < w3.heap.size := HR3.out.1
    have hzn : N < w3.heap.size := HM3.out.lt
    have HI0 : Hid (HI f l σ N w.heap.size w3.heap.size Wc.heap.size w [] Wc) := ⟨by rw [hσ]; exact HST.out.on hO6c, HMT.out.on hO6c, HRT.out.on hO6c, (HOT.out.trans hO6c).2, Nat.le_refl _⟩
    have HBX := Lib.hid hbx; have HBY := Lib.hid hby
    have HOC := Lib.hid (HOT.out.trans hO6c)
    have HSG := Lib.hid hσ
    clear hWc hO6c hbx hby hσ HST HMT HRT HOT
    refine wpIn_rangeFunc_ownG (F := Fence.wide) (n := 10) (P := Tryd.prog) rfl (by omega) (gf := 54) (lb := #[.pointer (some ⟨w6.heap.size, 0, none⟩), .pointer (some ⟨w6.heap.size + 1, 0, none⟩)]) rfl trivial (enters_of Tryd.func54 (by kernel_rfl) rfl)
      (encs := fun x : Nat => #[pairV b off n x]) (Kp := KeepC w.heap.size w6.heap.size (w6.heap.size + 1)) (S := fun ys => ys = List.range ((n + 1) / 2)) (Sp := fun pre => ∃ k, k ≤ (n + 1) / 2 ∧ pre = List.range k) (N := (n + 1) / 2) (w0 := Wc)
      ?seq (fun h k => h.trans k) ?kb (Below.refl _ _) (fun _ => rfl) (HI f l σ N w.heap.size w3.heap.size Wc.heap.size w) (fun _ _ _ => False)
      (HI.own ⟨by omega, by omega, by omega, by omega⟩) (fun c _ _ _ _ h _ _ => h.elim) HI0.out
      (fun x => { tmps := #[.int .i64 f, .slice (some ⟨b, off, none⟩) n cap, undef, undef, .pointer (some ⟨w.heap.size, 0, none⟩), .pointer (some ⟨N, 0, none⟩), .bool true, .pointer (some ⟨w3.heap.size, 0, none⟩), (pairV b off n x), undef, undef,
          .tuple #[.agg V.toArray, .bool true], .int .i64 f, .tuple #[.agg V.toArray, .bool true], .agg V.toArray, .bool true, .bool true, .bool false, undef, .slice (some ⟨b, off, none⟩) n cap, .int .i64 (n : Int), .int .u64 (n : Int),
          .agg #[.int .u64 0, .int .u64 0, .int .u64 (n : Int), .int .u64 0], .agg #[.int .u64 (y.a : Int), .int .u64 (y.b : Int), .int .u64 (y.c : Int), .int .u64 (y.d : Int)], .slice (some ⟨b, off, none⟩) n cap, .int .i64 (n : Int), .bool false, undef, undef, .slice (some ⟨b, off, none⟩) n cap,
          .func (.func 54) #[] #[.pointer (some ⟨w6.heap.size, 0, none⟩), .pointer (some ⟨w6.heap.size + 1, 0, none⟩)], (pairV b off n x), undef, undef, undef, undef, undef, undef, undef, undef, undef, undef, undef, undef, undef, undef, undef, undef, undef, undef, undef, undef, undef, undef, undef, undef], defers := [] })
      ?assign ?body ?done ?stop
    case seq =>
      intro l' J Jx W hW hJ _ hY' hj0
      refine (chunk_in 9 b off n cap l' w6.heap.size (w6.heap.size + 1) w.heap.size hcap hcap2 (by omega) J Jx (fun pre x U h1 h2 _ => hY' pre x U h1 h2) (fun pre U q h => hJ pre U _ none h ⟨rfl, rfl, rfl, Nat.le_refl _, fun _ _ _ => rfl⟩ (fun r e => by cases e)) W ((hW.block w6.heap.size (by omega)).trans HBX.out) ((hW.block (w6.heap.size + 1) (by omega)).trans HBY.out) hj0)
    case body =>
      intro l' pre x W hI hlen
      have HS := Lib.hid hI
      have hse : Els f (hashP f l σ pre) := hashP_els f l σ pre hp (by rw [HSG.out]; exact hye)
      have HSE := Lib.hid hse
      have HNX : Hid (hashP f l σ (pre ++ [x]) = stepP f l (hashP f l σ pre) x) := hashP_snoc f l σ pre x
      have hst := hI.st
      obtain ⟨s, hs⟩ : ∃ s, s = hashP f l σ pre := ⟨_, rfl⟩
      rw [← hs] at hst HSE HNX
      have HS0 := Lib.hid hst
      have HOW : Hid (On w W) := ⟨HO3.out.1, hI.bel⟩
      have HMW := Lib.hid hI.mx
      have HRW := Lib.hid hI.rs
      have HSW := Lib.hid hI.sz
      obtain ⟨M, hM⟩ : ∃ M, M = min 2 (n - 2 * x) := ⟨_, rfl⟩
      have hM2 : M ≤ 2 := by omega
      have hMi : (M : Int) ≤ 2 := by omega
      have HM2 : Hid (∀ j, j < M → 2 * x + j < n) := fun j hj => by omega
      have HM3' : Hid (∀ j, M ≤ j → j < 2 → l.getD (2 * x + j) 0 = 0) := fun j h1 h2 => by
        rw [List.getD_eq_getElem?_getD, List.getElem?_eq_none (by rw [HN.out]; omega)]; rfl
      have hpv : pairV b off n x = .slice (some ⟨b, off + 2 * x, none⟩) M M := by unfold pairV; rw [← hM]
      rw [hpv]
      clear hI hse hs hst hM hpv HS
      gi_wp2
      gi_loopw [34] (fun vi wr => ∃ j : Nat, j ≤ M ∧ vi = .int .i64 (j : Int) ∧ Hid (Blk w3.heap.size wr (fl4 (fun i => if i < j then (ix s i + l.getD (2 * x + i) 0) % pOf f else ix s i))) ∧ Hid (Mx f N wr) ∧ Hid (Blk w.heap.size wr [0, 0]) ∧ Hid (Rd Wc.heap.size w.heap.size w6.heap.size (w6.heap.size + 1) W wr) ∧ Hid (On w wr)) (fun vi _ => M - (intOf vi).toNat)
      case atStart => exact ⟨0, Nat.zero_le _, rfl, HS0.out.eq (fl4_ext fun i hi => by simp), HMW.out, HRW.out, Rd.refl _ _ _ _ _, HOW.out⟩
      case round =>
        obtain ⟨j, hj, rfl, HA, HMr, HRr, HRD, HOr⟩ := hrel
        by_cases hjM : j < M
        · have hj4 : j < 4 := by omega
          have hca := HA.out.at4 j hj4
          simp only [Nat.lt_irrefl, if_false] at hca
          have hfa := HA.out.free j
          have h2 := HM2.out j hjM
          have hcx : wr.cell? ⟨b, off + 2 * x + j, none⟩ = some (.int .u64 ((l.getD (2 * x + j) 0 : Nat) : Int)) := by
            have h := HCL.out (2 * x + j) h2
            rw [← Nat.add_assoc] at h
            rw [HOr.out.cell (cell_size h)]; exact h
          have hux : l.getD (2 * x + j) 0 ≤ 18446744073709551615 := HUL.out _ (getD_mem l _ (by rw [HN.out]; exact h2))
          have hsl : ix s j < pOf f := by unfold ix; obtain ⟨e1, e2, e3, e4⟩ := HSE.out; (repeat' split) <;> assumption
          have HA2 : Hid (∀ v, v = (ix s j + l.getD (2 * x + j) 0) % pOf f → Blk w3.heap.size (wr.setCell ⟨w3.heap.size, j, none⟩ (.int .u64 ((v : Nat) : Int))) (fl4 (fun i => if i < j + 1 then (ix s i + l.getD (2 * x + i) 0) % pOf f else ix s i))) := fun v hv => (HA.out.put4 j v hj4).eq (fl4_ext fun i hi => by
            by_cases h1 : i = j
            · subst h1; simp [hv]
            · by_cases h2 : i < j
              · rw [if_neg h1, if_pos h2, if_pos (by omega)]
              · rw [if_neg h1, if_neg h2, if_neg (by omega)])
          have HM2' : Hid (∀ u, Mx f N (wr.setCell ⟨w3.heap.size, j, none⟩ u)) := fun u => HMr.out.kept (by simp [World.setCell]) fun o => World.cell?_of_block (Below.heap_setCell _ _ _ _ (by simp; omega))
          have HR2' : Hid (∀ u, Blk w.heap.size (wr.setCell ⟨w3.heap.size, j, none⟩ u) [0, 0]) := fun u => HRr.out.other _ (by simp; omega) u
          have HD2' : Hid (∀ u, Rd Wc.heap.size w.heap.size w6.heap.size (w6.heap.size + 1) W (wr.setCell ⟨w3.heap.size, j, none⟩ u)) := fun u => HRD.out.setCell _ u (by simp; omega) (by simp; omega) (by simp; omega)
          have HO2' : Hid (∀ u, On w (wr.setCell ⟨w3.heap.size, j, none⟩ u)) := fun u => HOr.out.setCell (by simp; omega) u
          generalize l.getD (2 * x + j) 0 = e at *
          generalize ix s j = g at *
          obtain ⟨e1, he1⟩ : ∃ q, q = e % pOf f := ⟨_, rfl⟩
          have le1 : e1 < pOf f := by rw [he1]; exact Nat.mod_lt _ hp
          obtain ⟨X, hX⟩ : ∃ X, X = g + e1 := ⟨_, rfl⟩
          have hX1 : IntKind.u64.wrap ((g : Int) + (e1 : Int)) = (X : Int) := by rw [hX]; exact IntWalk.u64_in _ (by omega)
          obtain ⟨u, hu⟩ : ∃ u, u = (g + e) % pOf f := ⟨_, rfl⟩
          have hXu : X % pOf f = u := by rw [hX, hu, he1, Nat.add_mod_mod]
          have hXl : X ≤ 18446744073709551615 := by omega
          have HE1 : Hid (∀ n, Calls Tryd.prog 43 #[.pointer (some ⟨N, 0, none⟩), .int .u64 (e : Int)] (wr.drewN n) fun r w' => r = .returned (.int .u64 (e1 : Int)) ∧ wr.drewN n = w') := fun n => by
            have h := (HMr.out.drewN n).reduce e hux; rw [← he1] at h; exact h
          have HE2 : Hid (∀ n, Calls Tryd.prog 43 #[.pointer (some ⟨N, 0, none⟩), .int .u64 (X : Int)] (wr.drewN n) fun r w' => r = .returned (.int .u64 (u : Int)) ∧ wr.drewN n = w') := fun n => by
            have h := (HMr.out.drewN n).reduce X hXl; rw [hXu] at h; exact h
          have HUU := Lib.hid hu
          have l0 : (0 : Int) ≤ (j : Int) := by omega
          have l1 : (j : Int) < 4 := by omega
          have l2 : (j : Int) < (M : Int) := by omega
          clear he1 hX hu hXu h2
          gi_wp2
          refine round_quiet_tail 9 (by kernel_rfl) (by kernel_rfl) (by kernel_rfl) ?_
          simp only [List.take_succ_cons, List.take_zero, List.drop_succ_cons, List.drop_zero]
          repeat (quiet_step ((first
            | (go_at_call 43; with_reducible exact quiet_of_eq (HE1.out _))
            | (go_at_call 43; with_reducible exact quiet_of_eq (HE2.out _)))))
          refine wpQuiet_nil ?_
          intro _ hw'
          obtain ⟨nq, hw''⟩ := hw'
          subst hw''
          have hc3 : (wr.drewN nq).cell? ⟨w3.heap.size, j, none⟩ = _ := hca
          have hf3 : (wr.drewN nq).frozen? ⟨w3.heap.size, j, none⟩ = false := hfa
          gi_wp2
          go_roundw
          case rel => exact ⟨j + 1, by omega, by go_num, (HA2.out _ HUU.out).drewN nq, (HM2'.out _).drewN nq, (HR2'.out _).drewN nq, (HD2'.out _).drewN nq, (HO2'.out _).drewN nq⟩
          case measure => simp [intOf]; omega
        · obtain rfl : j = M := by omega
          obtain ⟨q, hq⟩ : ∃ q : St, q = ⟨(s.a + l.getD (2 * x) 0) % pOf f, (s.b + l.getD (2 * x + 1) 0) % pOf f, s.c, s.d⟩ := ⟨_, rfl⟩
          have hAq : Blk w3.heap.size wr (fl4 (ix q)) := HA.out.eq (fl4_ext fun i hi => by
            have hlt := HSE.out
            have h0 : i < 2 → ix q i = (ix s i + l.getD (2 * x + i) 0) % pOf f := fun h => by
              rcases (show i = 0 ∨ i = 1 by omega) with rfl | rfl <;> (rw [hq]; rfl)
            have h1 : ¬ i < 2 → ix q i = ix s i := fun h => by
              rcases (show i = 2 ∨ i = 3 by omega) with rfl | rfl <;> (rw [hq]; rfl)
            by_cases hi2 : i < 2
            · rw [h0 hi2]
              by_cases hij : i < j
              · rw [if_pos hij]
              · rw [if_neg hij, HM3'.out i (by omega) hi2, Nat.add_zero, Nat.mod_eq_of_lt]
                unfold ix; obtain ⟨e1, e2, e3, e4⟩ := hlt; (repeat' split) <;> assumption
            · rw [h1 hi2, if_neg (by omega)])
          have hqe : Els f q := by
            rw [hq]; exact ⟨Nat.mod_lt _ hp, Nat.mod_lt _ hp, HSE.out.2.2.1, HSE.out.2.2.2⟩
          have HPC := Lib.hid (perm_s f N q wr HOr.out.tab HMr.out hqe)
          have HAQ := Lib.hid hAq
          have hqu : upS f q 8 = stepP f l s x := by
            unfold stepP permS; rw [← hq, modS_id f q hqe]
          have HQU := Lib.hid hqu
          obtain ⟨c0, c1, c2, c3⟩ := hAq.cells4
          have hzr : w6.heap.size + 1 < wr.heap.size := by have h := HRD.out.1.size; have h2 := HOW.out.size; have h3 := HSW.out; omega
          clear hq hAq hqe hqu HA
          gi_wp2_with (refine ⟨trivial, ?_⟩; gi_at_call 39; refine (CallsIn.inRound l' (callsIn_wide.2 HPC.out)).mono ?_; rintro e w8 ⟨rfl, hO8⟩; have HO8 := Lib.hid hO8; obtain ⟨k0, k1, k2, k3⟩ := (HAQ.out.on hO8).cells4; obtain ⟨m0, m1, m2, m3⟩ := (HAQ.out.on hO8).free4; clear hO8)
          have hA8 := (HAQ.out.on HO8.out).store4 (upS f q 8)
          refine ⟨(HRD.out.on HO8.out (by omega) (by omega) (by omega)).store4 (by omega) (by omega) (by omega) _ _ _ _ |>.1, (HRD.out.on HO8.out (by omega) (by omega) (by omega)).store4 (by omega) (by omega) (by omega) _ _ _ _ |>.2, ?_, ?_, ?_, ?_, ?_⟩
          · rw [HNX.out, ← HQU.out]; exact hA8
          · exact (HMr.out.on HO8.out).store4 (by omega) _ _ _ _
          · exact (HRr.out.on HO8.out).other4 (by omega) _ _ _ _
          · exact ((HOr.out.trans HO8.out).store4 (by omega) _ _ _ _).2
          · exact Nat.le_trans HSW.out ((HRD.out.on HO8.out (by omega) (by omega) (by omega)).store4 (S := w3.heap.size) (by omega) (by omega) (by omega) _ _ _ _).1.size
    case kb =>
      intro W l' o o' hl ho hc _
      refine ⟨(Below.refl _ _).grown (grownBy_putObj' W l' o') ?_ (fun k e => by cases e; omega), World.putObj_heap_other (by omega), World.putObj_heap_other (by omega)⟩
      have := (Array.getElem?_eq_some_iff.1 ho).1
      omega
    case assign =>
      intro l' x W K hK
      gi_wp2
      exact hK
    case stop =>
      intro D c pre W _ _ h _
      exact h.elim
    case done =>
      rintro D ys W hD rfl hS hK
      have hFE : fl4 (ix (hashP f l σ (List.range ((n + 1) / 2)))) = fl4 (ix (hashS f l)) := by
        rw [HSG.out, HY.out, hashP_range]; unfold hashS; rw [if_neg (by rw [HN.out]; omega), HN.out]
      have HSF := Lib.hid (hS.st.eq hFE)
      have HS := Lib.hid hS
      clear hS
      obtain ⟨t, ht⟩ : ∃ t, t = hashS f l := ⟨_, rfl⟩
      rw [← ht] at HSF
      have HT := Lib.hid ht
      clear ht
      obtain ⟨t0, t1, -, -⟩ := HSF.out.cells4
      obtain ⟨r0, r1⟩ := HS.out.rs.cells2
      have f0 := HS.out.rs.free 0
      have f1 := HS.out.rs.free 1
      gi_wp2
      have hK2 : ((W.setCell ⟨w.heap.size, 0, none⟩ (.int .u64 (t.a : Int))).setCell ⟨w.heap.size, 1, none⟩ (.int .u64 (t.b : Int))).heap[D]? = some (.deferred (some [])) := ((KeepsOthers.setCell W _ _).trans (KeepsOthers.setCell _ _ _)).same D _ hK rfl
      refine ⟨by simp, .inl ⟨_, _, rfl, run_takeDeferred hK2, ?_⟩⟩
      have hb2 := HS.out.rs.store2 t.a t.b
      obtain ⟨p0, p1⟩ := hb2.cells2
      have cr0 := cell_kept p0 (grownBy_putObj' _ D (.deferred none)) (fun r e => by cases e; exact ⟨_, hK2, rfl⟩)
      have cr1 := cell_kept p1 (grownBy_putObj' _ D (.deferred none)) (fun r e => by cases e; exact ⟨_, hK2, rfl⟩)
      have hbel : Below w.heap.size w ((W.setCell ⟨w.heap.size, 0, none⟩ (.int .u64 (t.a : Int))).setCell ⟨w.heap.size, 1, none⟩ (.int .u64 (t.b : Int))) := (HS.out.bel.setCell (by simp) _).setCell (by simp) _
      refine ⟨.agg #[.int .u64 (t.a : Int), .int .u64 (t.b : Int)], ?_, by rw [HT.out], ?_⟩
      · simp [results, Tryd.results21, go_sem, cr0, cr1]
      · exact ⟨HO3.out.1, hbel.trans (belowK_b (w := w) (Nat.le_refl _) _ D _ _ (by omega) hK2 rfl rfl)⟩
end Go.Proofs.YtbmieoedpgdlpaaDoor
