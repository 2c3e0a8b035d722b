/- Plain numbers: the polynomial through points takes their values, and is the only one. -/
import Derived.Test.YtdhacfagmfecgaaDoorPnewt
import Derived.Test.YtdhacfagmfecgaaDoorProots
namespace Go.Proofs.YtdhacfagmfecgaaDoor

theorem add_cancel_mod {p a b c : Nat} (h : (a + c) % p = (b + c) % p) : a % p = b % p := by
  have h1 : ((a + c : Nat) : Int) % (p : Int) = ((b + c : Nat) : Int) % (p : Int) := by exact_mod_cast h
  have h2 := (Int.emod_eq_emod_iff_emod_sub_eq_zero).1 h1
  rw [show ((a + c : Nat) : Int) - ((b + c : Nat) : Int) = (a : Int) - (b : Int) by omega] at h2
  have h3 := (Int.emod_eq_emod_iff_emod_sub_eq_zero).2 h2
  exact_mod_cast h3
theorem subF_modR (f : Int) (a b : Nat) : subF f a (b % pOf f) = subF f a b := by unfold subF; rw [Nat.mod_mod]
theorem rootL_val (f : Int) (l : List Nat) (x z : Nat) (hv : validB f = true) : evF f (rootL f l x) z = mulF f (subF f z x) (evF f l z) := by
  have hp := (valid_iff f).1 hv
  rw [evF_pos _ _ hp, evF_pos _ _ hp, mulF_modR, mulF_pos _ _ _ hp]
  refine add_cancel_mod (c := x * E l z) ?_
  have e1 : E (rootL f l x) z + x * E l z = E ((List.range (l.length + 1)).map fun i => subF f (if i = 0 then 0 else l.getD (i - 1) 0) (mulF f x (l.getD i 0)) + x * l.getD i 0) z := by
    rw [E_range_add, E_range_mul (g := fun i => l.getD i 0), E_range_id l _ _ (by omega)]; rfl
  have e2 : E ((List.range (l.length + 1)).map fun i => if i = 0 then 0 else l.getD (i - 1) 0) z = z * E l z := by
    rw [E_range_succ, if_pos rfl, Nat.zero_add]
    congr 1
    exact (E_ext _ _ _ fun i => by rw [getD_range]; simp only [Nat.add_sub_cancel, Nat.succ_ne_zero, if_false]; rw [getD_range]).trans (E_range_id l l.length z (Nat.le_refl _))
  have e3 : E ((List.range (l.length + 1)).map fun i => subF f (if i = 0 then 0 else l.getD (i - 1) 0) (mulF f x (l.getD i 0)) + x * l.getD i 0) z % pOf f = z * E l z % pOf f := by
    rw [← e2]
    refine E_mod _ _ _ _ _ (fun i => ?_) rfl
    rw [getD_range, getD_range]
    split
    · rw [Nat.add_comm, mulF_pos _ _ _ hp]; exact sub_back f _ _ hp
    · rfl
  rw [e1, e3]
  have e4 : (x + subF f z x) % pOf f = z % pOf f := by rw [← subF_modR]; exact sub_back f x z hp
  rw [← Nat.add_mul, Nat.mul_mod, Nat.mul_mod (subF f z x + x), Nat.add_comm (subF f z x), e4]
theorem mulF_eq_zero {f : Int} {a b : Nat} (hv : validB f = true) (h : mulF f a b = 0) : a % pOf f = 0 ∨ b % pOf f = 0 := by
  have hp := (valid_iff f).1 hv
  rw [mulF_pos _ _ _ hp] at h
  rcases nat_dvd_or (isP_field f hv) (Nat.dvd_of_mod_eq_zero h) with h1 | h1
  · exact .inl (Nat.mod_eq_zero_of_dvd h1)
  · exact .inr (Nat.mod_eq_zero_of_dvd h1)
theorem subF_eq_zero {f : Int} {a b : Nat} (hv : validB f = true) : subF f a b = 0 ↔ a % pOf f = b % pOf f := by
  have hp := (valid_iff f).1 hv
  have e : (b + subF f a b) % pOf f = a % pOf f := by rw [← subF_modR]; exact sub_back f b a hp
  constructor
  · intro h; rw [h, Nat.add_zero] at e; exact e.symm
  · intro h
    rw [h] at e
    have h1 : (subF f a b + b) % pOf f = (0 + b) % pOf f := by rw [Nat.add_comm, e, Nat.zero_add]
    have h2 := add_cancel_mod h1
    rwa [Nat.mod_eq_of_lt (subF_lt f a b hp), Nat.zero_mod] at h2
theorem evF_lt {f : Int} (l : List Nat) (x : Nat) (hp : 0 < pOf f) : evF f l x < pOf f := by rw [evF_pos _ _ hp]; exact Nat.mod_lt _ hp
theorem foldl_root_zero {f : Int} (hv : validB f = true) (xs : List Nat) (l : List Nat) (z : Nat) : evF f (xs.foldl (rootL f) l) z = 0 ↔ evF f l z = 0 ∨ ∃ x ∈ xs, x % pOf f = z % pOf f := by
  have hp := (valid_iff f).1 hv
  induction xs generalizing l with
  | nil => simp
  | cons x xs ih =>
    rw [List.foldl_cons]
    refine (ih (rootL f l x)).trans ?_
    rw [rootL_val f l x z hv]
    constructor
    · rintro (h | ⟨y, hy, h⟩)
      · rcases mulF_eq_zero hv h with h1 | h1
        · rw [Nat.mod_eq_of_lt (subF_lt f z x hp)] at h1
          exact .inr ⟨x, by simp, ((subF_eq_zero hv).1 h1).symm⟩
        · rw [Nat.mod_eq_of_lt (evF_lt l z hp)] at h1; exact .inl h1
      · exact .inr ⟨y, by simp [hy], h⟩
    · rintro (h | ⟨y, hy, h⟩)
      · left; rw [h]; exact mulF_nulR f _
      · rcases List.mem_cons.1 hy with rfl | hy
        · left; rw [(subF_eq_zero hv).2 h.symm]; exact mulF_nulL f _
        · exact .inr ⟨y, hy, h⟩
theorem vanL_zero {f : Int} (hv : validB f = true) (xs : List Nat) (z : Nat) : evF f (vanL f xs) z = 0 ↔ ∃ x ∈ xs, x % pOf f = z % pOf f := by
  have hp := (valid_iff f).1 hv
  unfold vanL
  rw [foldl_root_zero hv]
  have : evF f [1] z ≠ 0 := by
    have hb := big f hv
    rw [evF_pos _ _ hp]
    simp only [E, Nat.mul_zero, Nat.add_zero]
    rw [Nat.mod_eq_of_lt (by omega)]; decide
  constructor
  · rintro (h | h)
    · exact absurd h this
    · exact h
  · exact .inr
theorem stN_van (f : Int) (ps : List Pt) : (stN f ps).2 = vanL f (ps.map fun p => p.1.1) := by
  have key : ∀ (ps : List Pt) (s : List Nat × List Nat), (ps.foldl (stepN f) s).2 = (ps.map fun p => p.1.1).foldl (rootL f) s.2 := by
    intro ps
    induction ps with
    | nil => intro s; rfl
    | cons p ps ih => intro s; rw [List.foldl_cons, ih]; rfl
  exact key ps ([], [1])
theorem stepN_val {f : Int} (hv : validB f = true) (L1 L2 : List Nat) (hl : L2.length = L1.length + 1) (p : Pt) (z : Nat) :
    evF f (stepN f (L1, L2) p).1 z = addF f (evF f L1 z) (mulF f (divF f (subF f p.1.2 (evF f L1 p.1.1)) (evF f L2 p.1.1)) (evF f L2 z)) := by
  have hp := (valid_iff f).1 hv
  unfold stepN
  simp only []
  generalize divF f (subF f p.1.2 (evF f L1 p.1.1)) (evF f L2 p.1.1) = s
  rw [evF_pos _ _ hp, evF_pos _ _ hp, evF_pos _ _ hp, mulF_modR, addF_modL, mulF_pos _ _ _ hp, addF_modR, addF_pos _ _ _ hp]
  rw [← E_range_id L1 (L1.length + 1) z (by omega), ← E_range_id L2 (L1.length + 1) z (by omega), ← E_range_mul (g := fun i => L2.getD i 0), ← E_range_add]
  refine E_mod _ _ _ _ _ (fun i => ?_) rfl
  rw [getD_range, getD_range]
  split
  · rw [addF_pos _ _ _ hp, mulF_pos _ _ _ hp, Nat.add_mod_mod, Nat.mod_mod]
  · rfl
theorem okN_snoc_iff {f : Int} {ps : List Pt} {p : Pt} : okN f (ps ++ [p]) ↔ okN f ps ∧ evF f (stN f ps).2 p.1.1 ≠ 0 :=
  ⟨fun h => ⟨okN_prefix h, h ps p [] rfl⟩, fun h => okN_snoc h.1 h.2⟩
theorem pt_rec {P : List Pt → Prop} (h0 : P []) (h1 : ∀ ps p, P ps → P (ps ++ [p])) (ps : List Pt) : P ps := by
  generalize hk : ps.length = k
  induction k generalizing ps with
  | zero => rw [List.length_eq_zero_iff.1 hk]; exact h0
  | succ k ih =>
    rcases pt_cases ps with rfl | ⟨l, c, rfl⟩
    · exact h0
    · exact h1 l c (ih l (by simp at hk; omega))
theorem okN_iff {f : Int} (hv : validB f = true) (ps : List Pt) : okN f ps ↔ (ps.map fun p => p.1.1).Pairwise fun x y => x % pOf f ≠ y % pOf f := by
  refine pt_rec (P := fun ps => okN f ps ↔ (ps.map fun p => p.1.1).Pairwise fun x y => x % pOf f ≠ y % pOf f) ?_ (fun ps p ih => ?_) ps
  · exact ⟨fun _ => List.Pairwise.nil, fun _ => okN_nil f⟩
  · rw [okN_snoc_iff, ih, List.map_append, List.pairwise_append, stN_van, ne_eq, vanL_zero hv]
    constructor
    · rintro ⟨h1, h2⟩
      refine ⟨h1, by simp, fun a ha b hb hab => h2 ⟨a, ha, ?_⟩⟩
      simp at hb; subst hb; exact hab
    · rintro ⟨h1, _, h2⟩
      exact ⟨h1, fun ⟨x, hx, h⟩ => h2 x hx _ (by simp) h⟩
theorem interp_val {f : Int} (hv : validB f = true) (ps : List Pt) : okN f ps → ∀ q ∈ ps, evF f (stN f ps).1 q.1.1 = q.1.2 % pOf f := by
  have hp := (valid_iff f).1 hv
  refine pt_rec (P := fun ps => okN f ps → ∀ q ∈ ps, evF f (stN f ps).1 q.1.1 = q.1.2 % pOf f) (fun _ q hq => by simp at hq) (fun ps p ih hok q hq => ?_) ps
  rw [okN_snoc_iff] at hok
  obtain ⟨h1, h2, _, _⟩ := stN_facts f ps
  rw [stN_snoc, show stN f ps = ((stN f ps).1, (stN f ps).2) from rfl, stepN_val hv _ _ (by omega)]
  rcases List.mem_append.1 hq with hq | hq
  · have hz : evF f (stN f ps).2 q.1.1 = 0 := by rw [stN_van]; exact (vanL_zero hv _ _).2 ⟨q.1.1, List.mem_map.2 ⟨q, hq, rfl⟩, rfl⟩
    rw [hz, mulF_nulR, ih hok.1 q hq, addF_zeroR _ _ hp, Nat.mod_mod]
  · simp at hq; subst hq
    have hne : evF f (stN f ps).2 q.1.1 % pOf f ≠ 0 := by rw [Nat.mod_eq_of_lt (evF_lt _ _ hp)]; exact hok.2
    rw [div_mul f _ _ hv hne, addF_modR, addF_pos _ _ _ hp]
    have := sub_back f (evF f (stN f ps).1 q.1.1) q.1.2 hp
    rwa [subF_modR] at this
/-- The polynomial through points. -/
def thruL (f : Int) (ps : List Pt) : List Nat := strip (stN f ps).1
theorem E_strip (l : List Nat) (x : Nat) : E (strip l) x = E l x := E_ext _ _ _ fun i => strip_getD l i
theorem evF_strip (f : Int) (l : List Nat) (x : Nat) : evF f (strip l) x = evF f l x := by unfold evF; rw [E_strip]
theorem evF_norm (f : Int) (l : List Nat) (x : Nat) : evF f (normF f l) x = evF f l x := by
  rcases Nat.eq_zero_or_pos (pOf f) with hp | hp
  · rw [evF_zero _ _ hp, evF_zero _ _ hp]
  · rw [evF_pos _ _ hp, evF_pos _ _ hp]
    exact E_mod _ _ _ _ _ (fun i => by rw [normF_getD, redF_pos _ _ hp, Nat.mod_mod]) rfl
theorem stN_lt {f : Int} (hp : 0 < pOf f) (ps : List Pt) : ∀ y ∈ (stN f ps).1, y < pOf f := by
  rcases pt_cases ps with rfl | ⟨l, c, rfl⟩
  · simp [stN]
  · rw [stN_snoc]; unfold stepN
    intro y hy
    obtain ⟨i, _, rfl⟩ := List.mem_map.1 hy
    exact addF_lt _ _ _ hp
theorem thruL_facts {f : Int} (hv : validB f = true) (ps : List Pt) : Norm (thruL f ps) ∧ (∀ y ∈ thruL f ps, y < pOf f) ∧ (thruL f ps).length ≤ ps.length :=
  ⟨norm_strip _, fun y hy => stN_lt ((valid_iff f).1 hv) ps y (strip_mem hy), by have := strip_len (stN f ps).1; rw [(stN_facts f ps).1] at this; exact this⟩
theorem thruL_only {f : Int} (hv : validB f = true) {ps : List Pt} (hok : okN f ps) (q : List Nat) (hq : q.length ≤ ps.length) (h : ∀ p ∈ ps, evF f q p.1.1 = p.1.2 % pOf f) : normF f q = thruL f ps := by
  have hp := (valid_iff f).1 hv
  obtain ⟨h1, h2, h3⟩ := thruL_facts hv ps
  refine normF_ext h1 fun i => ?_
  have := same_evF hv (thruL f ps) q (ps.map fun p => p.1.1) (by simpa using h3) (by simpa using hq) ((okN_iff hv ps).1 hok) (fun y hy => by
    obtain ⟨p, hpm, rfl⟩ := List.mem_map.1 hy
    unfold thruL
    rw [evF_strip, interp_val hv ps hok p hpm, h p hpm]) i
  rw [← this, redF_pos _ _ hp, Nat.mod_eq_of_lt (getD_lt hp h2 i)]
end Go.Proofs.YtdhacfagmfecgaaDoor
