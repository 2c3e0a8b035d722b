/- Plain: variables, lists of them, their order, sums of monomials in normal form. -/
import Derived.Test.YtbgljelpldnldaaDoorKz01
import Derived.Lib.Small
import Derived.Lib.ItoaNum
import Derived.Sort.Statements
set_option linter.unusedSimpArgs false
set_option linter.unusedVariables false
/- Plain: variables, lists of them, their order, sums of monomials in normal form. -/
namespace Go.Proofs.YtbgljelpldnldaaDoor
open Go.Sort
set_option linter.unusedVariables false

/-- A variable: its kind and its index. -/
abbrev Vr := Int × Int
/-- A monomial: its coefficient and its variables. -/
abbrev Mo := Nat × List Vr
abbrev zV : Vr := (0, 0)
abbrev zM : Mo := (0, [])
def okV (v : Vr) : Prop := 0 ≤ v.1 ∧ v.1 ≤ 255 ∧ -9223372036854775808 ≤ v.2 ∧ v.2 ≤ 9223372036854775807
theorem zV_ok : okV zV := by unfold okV; decide

/-- A comparison that parts whatever two are not one. -/
structure Good {α : Type} (c : α → α → Int) : Prop where
  refl : ∀ a, c a a = 0
  eq0 : ∀ a b, c a b = 0 → a = b
  anti : ∀ a b, c a b < 0 → 0 < c b a
  anti' : ∀ a b, 0 < c a b → c b a < 0
  trans : ∀ a b d, c a b < 0 → c b d < 0 → c a d < 0
section
variable {α : Type} {c : α → α → Int}
theorem Good.lt_or {α : Type} {c : α → α → Int} (h : Good c) (a b : α) : c a b < 0 ∨ a = b ∨ c b a < 0 := by
  rcases Int.lt_trichotomy (c a b) 0 with e | e | e
  · exact .inl e
  · exact .inr (.inl (h.eq0 a b e))
  · exact .inr (.inr (h.anti' a b e))
theorem Good.not {α : Type} {c : α → α → Int} (h : Good c) {a b : α} (h1 : ¬ c a b < 0) (h2 : ¬ c b a < 0) : a = b := by
  rcases h.lt_or a b with e | e | e
  · exact absurd e h1
  · exact e
  · exact absurd e h2
theorem Good.asymm {α : Type} {c : α → α → Int} (h : Good c) {a b : α} (h1 : c a b < 0) : ¬ c b a < 0 := by
  have := h.anti a b h1; omega
theorem Good.ltOf_false {α : Type} (c : α → α → Int) (a b : α) : (decide (c a b < 0)) = false ↔ ¬ c a b < 0 := by simp
theorem Good.ntrans {α : Type} {c : α → α → Int} (h : Good c) {a b d : α} (h1 : ¬ c a b < 0) (h2 : ¬ c b d < 0) : ¬ c a d < 0 := by
  intro h3
  rcases h.lt_or b a with e | e | e
  · have := h.trans b a d e h3; exact h2 this
  · subst e; exact h2 h3
  · exact h1 e
theorem Good.swo {α : Type} {c : α → α → Int} (h : Good c) : SWO (fun a b => decide (c a b < 0)) where
  irrefl x := by simp [h.refl x]
  trans x y z h1 h2 := by simp only [decide_eq_true_eq] at *; exact h.trans x y z h1 h2
  ntrans x y z h1 h2 := by simp only [decide_eq_false_iff_not] at *; exact h.ntrans h1 h2
end

theorem cI_lt {x y : Int} : Lib.compareInt x y < 0 ↔ x < y := by unfold Lib.compareInt; split <;> (try split) <;> omega
theorem cI_gt {x y : Int} : 0 < Lib.compareInt x y ↔ y < x := by unfold Lib.compareInt; split <;> (try split) <;> omega
theorem cI_eq {x y : Int} : Lib.compareInt x y = 0 ↔ x = y := by unfold Lib.compareInt; split <;> (try split) <;> omega
theorem cI_ne {x y : Int} (h : x ≠ y) : Lib.compareInt x y ≠ 0 := fun e => h (cI_eq.1 e)

def cmpV (a b : Vr) : Int := if a.1 = b.1 then Lib.compareInt a.2 b.2 else Lib.compareInt a.1 b.1
theorem cmpV_lt (a b : Vr) : cmpV a b < 0 ↔ a.1 < b.1 ∨ (a.1 = b.1 ∧ a.2 < b.2) := by
  unfold cmpV
  split
  · rename_i e; rw [cI_lt]; omega
  · rename_i e; rw [cI_lt]; omega
theorem cmpV_gt (a b : Vr) : 0 < cmpV a b ↔ b.1 < a.1 ∨ (a.1 = b.1 ∧ b.2 < a.2) := by
  unfold cmpV
  split
  · rename_i e; rw [cI_gt]; omega
  · rename_i e; rw [cI_gt]; omega
theorem cmpV_eq (a b : Vr) : cmpV a b = 0 ↔ a = b := by
  unfold cmpV
  split
  · rename_i e; rw [cI_eq]; exact ⟨fun h => Prod.ext e h, fun h => by rw [h]⟩
  · rename_i e
    exact ⟨fun h => absurd (cI_eq.1 h) e, fun h => absurd (by rw [h]) e⟩
theorem goodV : Good cmpV where
  refl a := (cmpV_eq a a).2 rfl
  eq0 a b h := (cmpV_eq a b).1 h
  anti a b h := by rw [cmpV_lt] at h; rw [cmpV_gt]; omega
  anti' a b h := by rw [cmpV_gt] at h; rw [cmpV_lt]; omega
  trans a b d h1 h2 := by rw [cmpV_lt] at *; omega

/-- slices.CompareFunc at two lists of variables. -/
def cmpL : List Vr → List Vr → Int
  | [], [] => 0
  | [], _ :: _ => -1
  | _ :: _, [] => 1
  | a :: s, b :: t => if cmpV a b = 0 then cmpL s t else cmpV a b
theorem goodL : Good cmpL where
  refl a := by
    induction a with
    | nil => rfl
    | cons x s ih => simp only [cmpL, goodV.refl x, if_true]; exact ih
  eq0 a := by
    induction a with
    | nil => intro b h; cases b with
      | nil => rfl
      | cons y t => simp [cmpL] at h
    | cons x s ih => intro b h; cases b with
      | nil => simp [cmpL] at h
      | cons y t =>
        simp only [cmpL] at h
        by_cases e : cmpV x y = 0
        · rw [if_pos e] at h; rw [goodV.eq0 x y e, ih t h]
        · rw [if_neg e] at h; exact absurd h e
  anti a := by
    induction a with
    | nil => intro b h; cases b with
      | nil => simp [cmpL] at h
      | cons y t => simp [cmpL]
    | cons x s ih => intro b h; cases b with
      | nil => simp [cmpL] at h
      | cons y t =>
        simp only [cmpL] at h ⊢
        by_cases e : cmpV x y = 0
        · rw [if_pos e] at h
          have : cmpV y x = 0 := by rw [goodV.eq0 x y e]; exact goodV.refl y
          rw [if_pos this]; exact ih t h
        · rw [if_neg e] at h
          have := goodV.anti x y h
          rw [if_neg (by omega)]; exact this
  anti' a := by
    induction a with
    | nil => intro b h; cases b with
      | nil => simp [cmpL] at h
      | cons y t => simp [cmpL] at h
    | cons x s ih => intro b h; cases b with
      | nil => simp [cmpL]
      | cons y t =>
        simp only [cmpL] at h ⊢
        by_cases e : cmpV x y = 0
        · rw [if_pos e] at h
          have : cmpV y x = 0 := by rw [goodV.eq0 x y e]; exact goodV.refl y
          rw [if_pos this]; exact ih t h
        · rw [if_neg e] at h
          have := goodV.anti' x y h
          rw [if_neg (by omega)]; exact this
  trans a := by
    induction a with
    | nil => intro b d h1 h2; cases b with
      | nil => simp [cmpL] at h1
      | cons y t => cases d with
        | nil => simp [cmpL] at h2
        | cons z u => simp [cmpL]
    | cons x s ih => intro b d h1 h2; cases b with
      | nil => simp [cmpL] at h1
      | cons y t => cases d with
        | nil => simp [cmpL] at h2
        | cons z u =>
          simp only [cmpL] at h1 h2 ⊢
          by_cases e1 : cmpV x y = 0
          · obtain rfl := goodV.eq0 x y e1
            rw [if_pos e1] at h1
            by_cases e2 : cmpV x z = 0
            · rw [if_pos e2] at h2 ⊢; exact ih t u h1 h2
            · rw [if_neg e2] at h2 ⊢; exact h2
          · rw [if_neg e1] at h1
            by_cases e2 : cmpV y z = 0
            · obtain rfl := goodV.eq0 y z e2
              rw [if_neg e1]; exact h1
            · rw [if_neg e2] at h2
              have h3 := goodV.trans x y z h1 h2
              rw [if_neg (by omega)]; exact h3

/-- The order of the monomials. -/
def cmpM (x y : List Vr) : Int := if x.length = y.length then cmpL x y else Lib.compareInt x.length y.length
theorem cmpM_lt (a b : List Vr) : cmpM a b < 0 ↔ a.length < b.length ∨ (a.length = b.length ∧ cmpL a b < 0) := by
  unfold cmpM
  split
  · rename_i e; constructor
    · exact fun h => .inr ⟨e, h⟩
    · rintro (h | h)
      · omega
      · exact h.2
  · rename_i e; rw [cI_lt]; omega
theorem cmpM_gt (a b : List Vr) : 0 < cmpM a b ↔ b.length < a.length ∨ (a.length = b.length ∧ 0 < cmpL a b) := by
  unfold cmpM
  split
  · rename_i e; constructor
    · exact fun h => .inr ⟨e, h⟩
    · rintro (h | h)
      · omega
      · exact h.2
  · rename_i e; rw [cI_gt]; omega
theorem goodM : Good cmpM where
  refl a := by unfold cmpM; rw [if_pos rfl]; exact goodL.refl a
  eq0 a b h := by
    unfold cmpM at h
    split at h
    · exact goodL.eq0 a b h
    · rename_i e; rw [cI_eq] at h; omega
  anti a b h := by
    rw [cmpM_lt] at h; rw [cmpM_gt]
    rcases h with h | ⟨h1, h2⟩
    · exact .inl h
    · exact .inr ⟨h1.symm, goodL.anti a b h2⟩
  anti' a b h := by
    rw [cmpM_gt] at h; rw [cmpM_lt]
    rcases h with h | ⟨h1, h2⟩
    · exact .inl h
    · exact .inr ⟨h1.symm, goodL.anti' a b h2⟩
  trans a b d h1 h2 := by
    rw [cmpM_lt] at *
    rcases h1 with h1 | ⟨h1, h1'⟩ <;> rcases h2 with h2 | ⟨h2, h2'⟩
    · left; omega
    · left; omega
    · left; omega
    · right; exact ⟨by omega, goodL.trans a b d h1' h2'⟩

/-- Sorting by insertion. -/
def insB {α : Type} (c : α → α → Int) (x : α) : List α → List α
  | [] => [x]
  | y :: r => if c y x < 0 then y :: insB c x r else x :: y :: r
def sortB {α : Type} (c : α → α → Int) : List α → List α
  | [] => []
  | x :: r => insB c x (sortB c r)
abbrev Asc {α : Type} (c : α → α → Int) (l : List α) : Prop := l.Pairwise fun a b => ¬ c b a < 0
theorem insB_perm {α : Type} (c : α → α → Int) (x : α) : ∀ l, (insB c x l).Perm (x :: l)
  | [] => List.Perm.refl _
  | y :: r => by
    unfold insB
    split
    · exact ((insB_perm c x r).cons y).trans (List.Perm.swap x y r)
    · exact List.Perm.refl _
theorem sortB_perm {α : Type} (c : α → α → Int) : ∀ l, (sortB c l).Perm l
  | [] => List.Perm.refl _
  | x :: r => (insB_perm c x _).trans ((sortB_perm c r).cons x)
theorem insB_asc {α : Type} {c : α → α → Int} (h : Good c) (x : α) : ∀ l, Asc c l → Asc c (insB c x l)
  | [], _ => by simp [insB, Asc]
  | y :: r, ha => by
    obtain ⟨h1, h2⟩ := List.pairwise_cons.1 ha
    unfold insB
    split
    · rename_i e
      refine List.pairwise_cons.2 ⟨fun z hz => ?_, insB_asc h x r h2⟩
      rcases List.mem_cons.1 ((insB_perm c x r).mem_iff.1 hz) with rfl | hz
      · exact h.asymm e
      · exact h1 z hz
    · rename_i e
      refine List.pairwise_cons.2 ⟨fun z hz => ?_, ha⟩
      rcases List.mem_cons.1 hz with rfl | hz
      · exact e
      · exact h.ntrans (h1 z hz) e
theorem sortB_asc {α : Type} {c : α → α → Int} (h : Good c) : ∀ l, Asc c (sortB c l)
  | [] => List.Pairwise.nil
  | x :: r => insB_asc h x _ (sortB_asc h r)
/-- There is one sorted order. -/
theorem asc_unique {α : Type} {c : α → α → Int} (h : Good c) {l m : List α} (hl : Asc c l) (hm : Asc c m) (hp : l.Perm m) : l = m :=
  List.Perm.eq_of_pairwise (fun a b _ _ h1 h2 => h.not h2 h1) hl hm hp
theorem sortB_unique {α : Type} {c : α → α → Int} (h : Good c) {l m : List α} (hm : Asc c m) (hp : m.Perm l) : m = sortB c l :=
  asc_unique h hm (sortB_asc h l) (hp.trans (sortB_perm c l).symm)
theorem sortB_congr {α : Type} {c : α → α → Int} (h : Good c) {l m : List α} (hp : l.Perm m) : sortB c l = sortB c m :=
  asc_unique h (sortB_asc h l) (sortB_asc h m) ((sortB_perm c l).trans (hp.trans (sortB_perm c m).symm))
/-- What the library's sort leaves. -/
theorem sorted_list {α : Type} [Inhabited α] {c : α → α → Int} (d d' : Array α) (hp : PermIn 0 d.size d d') (hs : SortedIn (fun a b => decide (c a b < 0)) 0 d.size d') : d'.toList.Perm d.toList ∧ Asc c d'.toList := by
  obtain ⟨hsz, _, hperm⟩ := hp
  have e1 : d'.extract 0 d.size = d' := by rw [← hsz]; exact Array.extract_size
  rw [e1, Array.extract_size] at hperm
  refine ⟨hperm, ?_⟩
  unfold Asc
  rw [List.pairwise_iff_getElem]
  intro i j hi hj hij
  have hi' : i < d'.size := by simpa using hi
  have hj' : j < d'.size := by simpa using hj
  have := hs i j (Nat.zero_le _) hij (by omega)
  rw [getElem!_pos d' j hj', getElem!_pos d' i hi'] at this
  simpa using this
theorem sortB_len {α : Type} (c : α → α → Int) (l : List α) : (sortB c l).length = l.length := (sortB_perm c l).length_eq
abbrev srtV (l : List Vr) : List Vr := sortB cmpV l
theorem srtV_ok (l : List Vr) (h : ∀ v ∈ l, okV v) : ∀ v ∈ srtV l, okV v := fun v hv => h v ((sortB_perm cmpV l).mem_iff.1 hv)

/-! ### Sums in the making -/
/-- A monomial with variables in order is added. -/
def putM (f : Int) : List Mo → Nat → List Vr → List Mo
  | [], c, u => [(addF f 0 c, u)]
  | (d, v) :: r, c, u => if v = u then (addF f d c, v) :: r else (d, v) :: putM f r c u
def addM (f : Int) (L : List Mo) (c : Nat) (u : List Vr) : List Mo := putM f L c (srtV u)
def collect (f : Int) (L : List Mo) (s : List Mo) : List Mo := s.foldl (fun L m => addM f L m.1 m.2) L
def nz (L : List Mo) : List Mo := L.filter fun m => !decide (m.1 = 0)
/-- Monomials, by the order of their variables. -/
def cmpS (x y : Mo) : Int := cmpM x.2 y.2
def normM (L : List Mo) : List Mo := sortB cmpS (nz L)
def normS (f : Int) (s : List Mo) : List Mo := normM (collect f [] s)
def prodS (f : Int) (a b : List Mo) : List Mo := a.flatMap fun x => b.map fun y => (mulF f x.1 y.1, x.2 ++ y.2)
/-- Where the monomial with the variables u is. -/
def idx (L : List Mo) (u : List Vr) : Option Nat := L.findIdx? fun m => decide (m.2 = u)
theorem putM_some (f : Int) : ∀ (L : List Mo) (c : Nat) (u : List Vr) (i : Nat), idx L u = some i → i < L.length ∧ (L.getD i zM).2 = u ∧ putM f L c u = L.set i (addF f (L.getD i zM).1 c, u) := by
  intro L c u
  induction L with
  | nil => intro i h; simp [idx] at h
  | cons m r ih =>
    intro i h
    obtain ⟨d, v⟩ := m
    unfold idx at h ih
    rw [List.findIdx?_cons] at h
    by_cases e : v = u
    · subst e
      simp at h
      subst h
      exact ⟨by simp, rfl, by simp [putM]⟩
    · simp only [e, decide_false, Bool.false_eq_true, if_false] at h
      cases hi : List.findIdx? (fun m => decide (m.2 = u)) r with
      | none => rw [hi] at h; simp at h
      | some j =>
        rw [hi] at h
        simp at h
        subst h
        obtain ⟨h1, h2, h3⟩ := ih j hi
        refine ⟨by simp; omega, by simpa using h2, ?_⟩
        show (if v = u then _ else _) = _
        rw [if_neg e, h3]
        simp
theorem putM_none (f : Int) : ∀ (L : List Mo) (c : Nat) (u : List Vr), idx L u = none → putM f L c u = L ++ [(addF f 0 c, u)] := by
  intro L c u
  induction L with
  | nil => intro h; rfl
  | cons m r ih =>
    intro h
    obtain ⟨d, v⟩ := m
    unfold idx at h ih
    rw [List.findIdx?_cons] at h
    by_cases e : v = u
    · subst e; simp at h
    · simp only [e, decide_false, Bool.false_eq_true, if_false, Option.map_eq_none_iff] at h
      show (if v = u then _ else _) = _
      rw [if_neg e, ih h]
      rfl
end Go.Proofs.YtbgljelpldnldaaDoor

/- Plain: values and degrees of sums of monomials; the normal form keeps them; it is the only one. -/
namespace Go.Proofs.YtbgljelpldnldaaDoor
open Go.Sort
set_option linter.unusedVariables false

theorem mod_addc {p a a' b b' : Nat} (h : a % p = a' % p) (k : b % p = b' % p) : (a + b) % p = (a' + b') % p := by rw [Nat.add_mod, h, k, ← Nat.add_mod]
theorem mod_mulc {p a a' b b' : Nat} (h : a % p = a' % p) (k : b % p = b' % p) : (a * b) % p = (a' * b') % p := by rw [Nat.mul_mod, h, k, ← Nat.mul_mod]
def prodV (f : Int) (e : Vr → Nat) (c : Nat) (vs : List Vr) : Nat := vs.foldl (fun x v => mulF f x (e v)) c
def valS (f : Int) (e : Vr → Nat) (s : List Mo) : Nat := s.foldl (fun t m => addF f t (prodV f e m.1 m.2)) 0
/-- The value as a natural number, without a field. -/
def termN (e : Vr → Nat) (m : Mo) : Nat := m.1 * (m.2.map e).prod
def valN (e : Vr → Nat) (s : List Mo) : Nat := (s.map (termN e)).sum
theorem valN_cons (e : Vr → Nat) (m : Mo) (s : List Mo) : valN e (m :: s) = termN e m + valN e s := by simp [valN]
theorem valN_append (e : Vr → Nat) (s t : List Mo) : valN e (s ++ t) = valN e s + valN e t := by simp [valN]
theorem prodV_mod (f : Int) (e : Vr → Nat) (hp : 0 < pOf f) : ∀ (vs : List Vr) (c : Nat), prodV f e c vs % pOf f = c * (vs.map e).prod % pOf f
  | [], c => by simp [prodV]
  | v :: r, c => by
    have ih := prodV_mod f e hp r (mulF f c (e v))
    unfold prodV at ih ⊢
    rw [List.foldl_cons, ih, mulF_pos f c (e v) hp, List.map_cons, List.prod_cons, ← Nat.mul_assoc]
    exact mod_mulc (Nat.mod_mod _ _) rfl
theorem valS_lt (f : Int) (e : Vr → Nat) (hp : 0 < pOf f) (s : List Mo) : valS f e s < pOf f := by
  have key : ∀ (s : List Mo) (t : Nat), t < pOf f → s.foldl (fun t m => addF f t (prodV f e m.1 m.2)) t < pOf f := by
    intro s
    induction s with
    | nil => intro t h; exact h
    | cons m r ih => intro t _; rw [List.foldl_cons]; exact ih _ (addF_lt f _ _ hp)
  exact key s 0 hp
theorem valS_mod (f : Int) (e : Vr → Nat) (hp : 0 < pOf f) (s : List Mo) : valS f e s = valN e s % pOf f := by
  have key : ∀ (s : List Mo) (t : Nat), s.foldl (fun t m => addF f t (prodV f e m.1 m.2)) t % pOf f = (t + valN e s) % pOf f := by
    intro s
    induction s with
    | nil => intro t; simp [valN]
    | cons m r ih =>
      intro t
      rw [List.foldl_cons, ih, addF_pos f _ _ hp, valN_cons, ← Nat.add_assoc]
      refine mod_addc ?_ rfl
      rw [Nat.mod_mod]
      exact mod_addc rfl (prodV_mod f e hp m.2 m.1)
  have h := key s 0
  rw [Nat.zero_add] at h
  rw [← h]
  exact (Nat.mod_eq_of_lt (valS_lt f e hp s)).symm
theorem valS_zero (f : Int) (e : Vr → Nat) (hp : pOf f = 0) (s : List Mo) : valS f e s = 0 := by
  have key : ∀ (s : List Mo), s.foldl (fun t m => addF f t (prodV f e m.1 m.2)) 0 = 0 := by
    intro s
    induction s with
    | nil => rfl
    | cons m r ih => rw [List.foldl_cons, show addF f 0 (prodV f e m.1 m.2) = 0 from if_pos hp]; exact ih
  exact key s

theorem prod_perm (e : Vr → Nat) {u v : List Vr} (h : u.Perm v) : (u.map e).prod = (v.map e).prod := (h.map e).prod_nat
theorem valN_perm (e : Vr → Nat) {s t : List Mo} (h : s.Perm t) : valN e s = valN e t := (h.map (termN e)).sum_nat
theorem valN_put (f : Int) (e : Vr → Nat) (hp : 0 < pOf f) (c : Nat) (u : List Vr) : ∀ L, valN e (putM f L c u) % pOf f = (valN e L + termN e (c, u)) % pOf f
  | [] => by
    show valN e [(addF f 0 c, u)] % pOf f = _
    rw [valN_cons, addF_pos f 0 c hp]
    simp only [valN, List.map_nil, List.sum_nil, Nat.add_zero, Nat.zero_add, termN]
    exact mod_mulc (Nat.mod_mod _ _) rfl
  | (d, v) :: r => by
    have ih := valN_put f e hp c u r
    unfold putM
    split
    · rename_i h
      subst h
      rw [valN_cons, valN_cons, addF_pos f d c hp, Nat.add_assoc, Nat.add_comm (valN e r), ← Nat.add_assoc]
      refine mod_addc ?_ rfl
      simp only [termN]
      rw [← Nat.add_mul]
      exact mod_mulc (Nat.mod_mod _ _) rfl
    · rw [valN_cons, valN_cons, Nat.add_assoc]
      exact mod_addc rfl ih
theorem valN_add (f : Int) (e : Vr → Nat) (hp : 0 < pOf f) (L : List Mo) (c : Nat) (u : List Vr) : valN e (addM f L c u) % pOf f = (valN e L + termN e (c, u)) % pOf f := by
  unfold addM
  rw [valN_put f e hp]
  simp only [termN]
  rw [prod_perm e (sortB_perm cmpV u)]
theorem valN_collect (f : Int) (e : Vr → Nat) (hp : 0 < pOf f) : ∀ (s L : List Mo), valN e (collect f L s) % pOf f = (valN e L + valN e s) % pOf f
  | [], L => by simp [collect, valN]
  | m :: r, L => by
    have ih := valN_collect f e hp r (addM f L m.1 m.2)
    unfold collect at ih ⊢
    rw [List.foldl_cons, ih, valN_cons, ← Nat.add_assoc]
    exact mod_addc (valN_add f e hp L m.1 m.2) rfl
theorem valN_nz (e : Vr → Nat) : ∀ L, valN e (nz L) = valN e L
  | [] => rfl
  | m :: r => by
    have ih := valN_nz e r
    unfold nz at ih ⊢
    rw [List.filter_cons]
    by_cases h : m.1 = 0
    · simp only [h, decide_true, Bool.not_true, Bool.false_eq_true, if_false]
      rw [valN_cons, ih, termN, h, Nat.zero_mul, Nat.zero_add]
    · simp only [h, decide_false, Bool.not_false, if_true]
      rw [valN_cons, valN_cons, ih]
theorem valN_norm (f : Int) (e : Vr → Nat) (hp : 0 < pOf f) (s : List Mo) : valN e (normS f s) % pOf f = valN e s % pOf f := by
  unfold normS normM
  rw [valN_perm e (sortB_perm _ _), valN_nz, valN_collect f e hp]
  simp [valN]
theorem valS_norm (f : Int) (e : Vr → Nat) (hp : 0 < pOf f) (s : List Mo) : valS f e (normS f s) = valS f e s := by
  rw [valS_mod f e hp, valS_mod f e hp, valN_norm f e hp]
theorem valS_append (f : Int) (e : Vr → Nat) (hp : 0 < pOf f) (a b : List Mo) : valS f e (a ++ b) = addF f (valS f e a) (valS f e b) := by
  rw [valS_mod f e hp, valS_mod f e hp, valS_mod f e hp, valN_append, addF_pos f _ _ hp, ← Nat.add_mod]
theorem valN_row (f : Int) (e : Vr → Nat) (hp : 0 < pOf f) (x : Mo) : ∀ b : List Mo, valN e (b.map fun y => (mulF f x.1 y.1, x.2 ++ y.2)) % pOf f = termN e x * valN e b % pOf f
  | [] => by simp [valN]
  | y :: r => by
    rw [List.map_cons, valN_cons, valN_cons, Nat.mul_add]
    refine mod_addc ?_ (valN_row f e hp x r)
    simp only [termN]
    rw [mulF_pos f _ _ hp, List.map_append, List.prod_append, show x.1 * (x.2.map e).prod * (y.1 * (y.2.map e).prod) = x.1 * y.1 * ((x.2.map e).prod * (y.2.map e).prod) by
      rw [Nat.mul_assoc, Nat.mul_assoc, Nat.mul_left_comm ((x.2.map e).prod)]]
    exact mod_mulc (Nat.mod_mod _ _) rfl
theorem valN_prod (f : Int) (e : Vr → Nat) (hp : 0 < pOf f) (b : List Mo) : ∀ a : List Mo, valN e (prodS f a b) % pOf f = valN e a * valN e b % pOf f
  | [] => by simp [prodS, valN]
  | x :: r => by
    have ih := valN_prod f e hp b r
    unfold prodS at ih ⊢
    rw [List.flatMap_cons, valN_append, valN_cons, Nat.add_mul]
    exact mod_addc (valN_row f e hp x b) ih
theorem valS_prod (f : Int) (e : Vr → Nat) (hp : 0 < pOf f) (a b : List Mo) : valS f e (prodS f a b) = mulF f (valS f e a) (valS f e b) := by
  rw [valS_mod f e hp, valS_mod f e hp, valS_mod f e hp, valN_prod f e hp, mulF_pos f _ _ hp, ← Nat.mul_mod]

/-! ### The variables of a normal form are those of the sum -/
theorem putM_vars (f : Int) (c : Nat) (u : List Vr) : ∀ (L : List Mo) (m : Mo), m ∈ putM f L c u → m.2 = u ∨ ∃ m' ∈ L, m'.2 = m.2
  | [], m, h => by
    simp only [putM, List.mem_singleton] at h
    subst h; exact .inl rfl
  | (d, v) :: r, m, h => by
    unfold putM at h
    split at h
    · rename_i e
      rcases List.mem_cons.1 h with rfl | h
      · exact .inl e
      · exact .inr ⟨m, List.mem_cons_of_mem _ h, rfl⟩
    · rcases List.mem_cons.1 h with rfl | h
      · exact .inr ⟨_, List.mem_cons_self, rfl⟩
      · rcases putM_vars f c u r m h with h | ⟨m', h1, h2⟩
        · exact .inl h
        · exact .inr ⟨m', List.mem_cons_of_mem _ h1, h2⟩
theorem collect_vars (f : Int) : ∀ (s L : List Mo) (m : Mo), m ∈ collect f L s → (∃ m' ∈ s, m.2 = srtV m'.2) ∨ ∃ m' ∈ L, m'.2 = m.2
  | [], L, m, h => .inr ⟨m, h, rfl⟩
  | x :: r, L, m, h => by
    have ih := collect_vars f r (addM f L x.1 x.2) m (by unfold collect at h ⊢; rwa [List.foldl_cons] at h)
    rcases ih with ⟨m', h1, h2⟩ | ⟨m', h1, h2⟩
    · exact .inl ⟨m', List.mem_cons_of_mem _ h1, h2⟩
    · rcases putM_vars f x.1 (srtV x.2) L m' h1 with h | ⟨m2, h3, h4⟩
      · exact .inl ⟨x, List.mem_cons_self, by rw [← h2, h]⟩
      · exact .inr ⟨m2, h3, by rw [h4, h2]⟩
theorem norm_vars (f : Int) (s : List Mo) (m : Mo) (h : m ∈ normS f s) : ∃ m' ∈ s, m.2 = srtV m'.2 := by
  unfold normS normM nz at h
  have h1 := (sortB_perm _ _).mem_iff.1 h
  have h2 := (List.mem_filter.1 h1).1
  rcases collect_vars f s [] m h2 with h | ⟨m', h3, _⟩
  · exact h
  · cases h3
def allIn (has : Vr → Bool) (s : List Mo) : Bool := s.all fun m => m.2.all has
theorem allIn_norm (f : Int) (has : Vr → Bool) (s : List Mo) (h : allIn has s = true) : allIn has (normS f s) = true := by
  unfold allIn at *
  rw [List.all_eq_true] at *
  intro m hm
  obtain ⟨m', h1, h2⟩ := norm_vars f s m hm
  have := h m' h1
  rw [List.all_eq_true] at *
  intro v hv
  rw [h2] at hv
  exact this v ((sortB_perm cmpV _).mem_iff.1 hv)
theorem allIn_append (has : Vr → Bool) (a b : List Mo) : allIn has (a ++ b) = (allIn has a && allIn has b) := by simp [allIn]
theorem mem_prodS {f : Int} {a b : List Mo} {m : Mo} : m ∈ prodS f a b ↔ ∃ x ∈ a, ∃ y ∈ b, m = (mulF f x.1 y.1, x.2 ++ y.2) := by
  unfold prodS
  simp only [List.mem_flatMap, List.mem_map]
  exact ⟨fun ⟨x, hx, y, hy, e⟩ => ⟨x, hx, y, hy, e.symm⟩, fun ⟨x, hx, y, hy, e⟩ => ⟨x, hx, y, hy, e.symm⟩⟩
theorem allIn_prod (f : Int) (has : Vr → Bool) (a b : List Mo) (ha : allIn has a = true) (hb : allIn has b = true) : allIn has (prodS f a b) = true := by
  unfold allIn at *
  rw [List.all_eq_true] at *
  intro m hm
  obtain ⟨x, hx, y, hy, rfl⟩ := mem_prodS.1 hm
  rw [List.all_append, ha x hx, hb y hy]; rfl

/-! ### Degrees -/
def isCol (k : Int) : Bool := decide (k = 1) || decide (k = 2) || decide (k = 3) || decide (k = 5) || decide (k = 6)
def degM (vs : List Vr) : Nat := (vs.filter fun v => isCol v.1).length
def degS (s : List Mo) : Nat := s.foldl (fun t m => max t (degM m.2)) 0
theorem degS_le {s : List Mo} {n : Nat} : degS s ≤ n ↔ ∀ m ∈ s, degM m.2 ≤ n := by
  have key : ∀ (s : List Mo) (t : Nat), s.foldl (fun t m => max t (degM m.2)) t ≤ n ↔ t ≤ n ∧ ∀ m ∈ s, degM m.2 ≤ n := by
    intro s
    induction s with
    | nil => intro t; simp
    | cons m r ih =>
      intro t
      rw [List.foldl_cons, ih]
      constructor
      · rintro ⟨h1, h2⟩
        exact ⟨by omega, fun x hx => by rcases List.mem_cons.1 hx with rfl | hx; · omega
                                        · exact h2 x hx⟩
      · rintro ⟨h1, h2⟩
        have := h2 m List.mem_cons_self
        exact ⟨by omega, fun x hx => h2 x (List.mem_cons_of_mem _ hx)⟩
  unfold degS
  rw [key]; simp
theorem degS_mem {s : List Mo} {m : Mo} (h : m ∈ s) : degM m.2 ≤ degS s := degS_le.1 (Nat.le_refl _) m h
theorem degM_perm {u v : List Vr} (h : u.Perm v) : degM u = degM v := (h.filter _).length_eq
theorem degM_append (u v : List Vr) : degM (u ++ v) = degM u + degM v := by simp [degM]
theorem degS_norm (f : Int) (s : List Mo) : degS (normS f s) ≤ degS s := degS_le.2 fun m hm => by
  obtain ⟨m', h1, h2⟩ := norm_vars f s m hm
  rw [h2, degM_perm (sortB_perm cmpV _)]
  exact degS_mem h1
theorem degS_prod (f : Int) (a b : List Mo) : degS (prodS f a b) ≤ degS a + degS b := degS_le.2 fun m hm => by
  obtain ⟨x, hx, y, hy, rfl⟩ := mem_prodS.1 hm
  have h1 := degS_mem hx
  have h2 := degS_mem hy
  show degM (x.2 ++ y.2) ≤ _
  rw [degM_append]; omega

/-! ### The normal form is the only one -/
def coefN (s : List Mo) (u : List Vr) : Nat := (s.map fun m => if m.2 = u then m.1 else 0).sum
theorem coefN_cons (m : Mo) (s : List Mo) (u : List Vr) : coefN (m :: s) u = (if m.2 = u then m.1 else 0) + coefN s u := by simp [coefN]
theorem coefN_append (s t : List Mo) (u : List Vr) : coefN (s ++ t) u = coefN s u + coefN t u := by simp [coefN]
theorem coefN_perm {s t : List Mo} (h : s.Perm t) (u : List Vr) : coefN s u = coefN t u := (h.map _).sum_nat
/-- The coefficient of u in a sum whose variables may stand in any order. -/
def coefU (s : List Mo) (u : List Vr) : Nat := (s.map fun m => if srtV m.2 = u then m.1 else 0).sum
theorem coefU_cons (m : Mo) (s : List Mo) (u : List Vr) : coefU (m :: s) u = (if srtV m.2 = u then m.1 else 0) + coefU s u := by simp [coefU]
theorem coefU_perm {s t : List Mo} (h : s.Perm t) (u : List Vr) : coefU s u = coefU t u := (h.map _).sum_nat
theorem coefN_put (f : Int) (hp : 0 < pOf f) (c : Nat) (v u : List Vr) : ∀ L, coefN (putM f L c v) u % pOf f = (coefN L u + if v = u then c else 0) % pOf f
  | [] => by
    show coefN [(addF f 0 c, v)] u % pOf f = _
    rw [coefN_cons, addF_pos f 0 c hp]
    simp only [coefN, List.map_nil, List.sum_nil, Nat.add_zero, Nat.zero_add]
    split
    · exact Nat.mod_mod _ _
    · rfl
  | (d, w) :: r => by
    have ih := coefN_put f hp c v u r
    unfold putM
    split
    · rename_i h
      subst h
      rw [coefN_cons, coefN_cons, addF_pos f d c hp, Nat.add_assoc, Nat.add_comm (coefN r u), ← Nat.add_assoc]
      refine mod_addc ?_ rfl
      show (if w = u then (d + c) % pOf f else 0) % pOf f = ((if w = u then d else 0) + if w = u then c else 0) % pOf f
      split
      · exact Nat.mod_mod _ _
      · rfl
    · rw [coefN_cons, coefN_cons, Nat.add_assoc]
      exact mod_addc rfl ih
theorem coefN_collect (f : Int) (hp : 0 < pOf f) (u : List Vr) : ∀ (s L : List Mo), coefN (collect f L s) u % pOf f = (coefN L u + coefU s u) % pOf f
  | [], L => by simp [collect, coefU]
  | m :: r, L => by
    have ih := coefN_collect f hp u r (addM f L m.1 m.2)
    unfold collect at ih ⊢
    rw [List.foldl_cons, ih, coefU_cons, ← Nat.add_assoc]
    exact mod_addc (coefN_put f hp m.1 (srtV m.2) u L) rfl
theorem coefN_nz (u : List Vr) : ∀ L, coefN (nz L) u = coefN L u
  | [] => rfl
  | m :: r => by
    have ih := coefN_nz u r
    unfold nz at ih ⊢
    rw [List.filter_cons]
    by_cases h : m.1 = 0
    · simp only [h, decide_true, Bool.not_true, Bool.false_eq_true, if_false]
      rw [coefN_cons, ih, h]; simp
    · simp only [h, decide_false, Bool.not_false, if_true]
      rw [coefN_cons, coefN_cons, ih]
theorem coefN_norm (f : Int) (hp : 0 < pOf f) (s : List Mo) (u : List Vr) : coefN (normS f s) u % pOf f = coefU s u % pOf f := by
  unfold normS normM
  rw [coefN_perm (sortB_perm _ _), coefN_nz, coefN_collect f hp]
  simp [coefN]
/-- A sum in normal form. -/
def NF (f : Int) (L : List Mo) : Prop := L.Pairwise (fun a b => cmpS a b < 0) ∧ ∀ m ∈ L, m.1 ≠ 0 ∧ m.1 < pOf f
theorem NF.coef {f : Int} {L : List Mo} (h : NF f L) {m : Mo} (hm : m ∈ L) : coefN L m.2 = m.1 := by
  obtain ⟨h1, h0⟩ := h
  clear h0
  induction L with
  | nil => cases hm
  | cons x r ih =>
    obtain ⟨h2, h3⟩ := List.pairwise_cons.1 h1
    have zero : ∀ (r : List Mo) (u : List Vr), (∀ y ∈ r, y.2 ≠ u) → coefN r u = 0 := by
      intro r u
      induction r with
      | nil => intro _; rfl
      | cons y t ih => intro hy; rw [coefN_cons, if_neg (hy y List.mem_cons_self), ih (fun z hz => hy z (List.mem_cons_of_mem _ hz))]
    have ne : ∀ a b : Mo, cmpS a b < 0 → a.2 ≠ b.2 := fun a b hc e => by
      unfold cmpS at hc; rw [e, goodM.refl] at hc; omega
    rcases List.mem_cons.1 hm with rfl | hm
    · rw [coefN_cons, if_pos rfl, zero r m.2 (fun y hy e => ne _ _ (h2 y hy) e.symm), Nat.add_zero]
    · rw [coefN_cons, if_neg (ne _ _ (h2 m hm)), Nat.zero_add]
      exact ih hm h3
theorem coefN_some {L : List Mo} {u : List Vr} (h : coefN L u ≠ 0) : ∃ m ∈ L, m.2 = u := by
  induction L with
  | nil => simp [coefN] at h
  | cons x r ih =>
    rw [coefN_cons] at h
    by_cases e : x.2 = u
    · exact ⟨x, List.mem_cons_self, e⟩
    · rw [if_neg e, Nat.zero_add] at h
      obtain ⟨m, h1, h2⟩ := ih h
      exact ⟨m, List.mem_cons_of_mem _ h1, h2⟩
theorem NF.sub {f : Int} {L K : List Mo} (hL : NF f L) (hK : NF f K) (h : ∀ u, coefN L u % pOf f = coefN K u % pOf f) : ∀ m ∈ L, m ∈ K := by
  intro m hm
  have h1 := hL.coef hm
  obtain ⟨h2, h3⟩ := hL.2 m hm
  have h4 := h m.2
  rw [h1, Nat.mod_eq_of_lt h3] at h4
  obtain ⟨k, hk, e⟩ := coefN_some (L := K) (u := m.2) (fun e => by rw [e, Nat.zero_mod] at h4; exact h2 h4)
  have h5 := hK.coef hk
  rw [e, ← Nat.mod_eq_of_lt (hK.2 k hk).2] at h5
  have h6 : coefN K m.2 < pOf f := by rw [← e, hK.coef hk]; exact (hK.2 k hk).2
  rw [Nat.mod_eq_of_lt h6] at h4
  rw [Nat.mod_eq_of_lt (hK.2 k hk).2] at h5
  have : m = k := Prod.ext (by rw [h4, h5]) e.symm
  rw [this]; exact hk
theorem NF.unique {f : Int} {L K : List Mo} (hL : NF f L) (hK : NF f K) (h : ∀ u, coefN L u % pOf f = coefN K u % pOf f) : L = K := by
  have nd : ∀ X : List Mo, NF f X → X.Nodup := fun X hX => hX.1.imp fun {a b} hc e => by
    subst e; unfold cmpS at hc; rw [goodM.refl] at hc; omega
  have hp : L.Perm K := (List.perm_ext_iff_of_nodup (nd L hL) (nd K hK)).2 fun m => ⟨hL.sub hK h m, hK.sub hL (fun u => (h u).symm) m⟩
  exact List.Perm.eq_of_pairwise (le := fun a b => cmpS a b < 0) (fun a b _ _ h1 h2 => absurd h2 (goodM.asymm h1)) hL.1 hK.1 hp
/-- The variables of the monomials differ. -/
def Apt (f : Int) (L : List Mo) : Prop := L.Pairwise (fun a b => a.2 ≠ b.2) ∧ ∀ m ∈ L, m.1 < pOf f
theorem Apt.put {f : Int} (hp : 0 < pOf f) (c : Nat) (u : List Vr) : ∀ {L : List Mo}, Apt f L → Apt f (putM f L c u)
  | [], _ => ⟨by simp [putM], fun m hm => by
      simp only [putM, List.mem_singleton] at hm; subst hm; exact addF_lt f _ _ hp⟩
  | (d, v) :: r, ⟨h1, h2⟩ => by
    obtain ⟨h3, h4⟩ := List.pairwise_cons.1 h1
    unfold putM
    split
    · rename_i e
      exact ⟨List.pairwise_cons.2 ⟨h3, h4⟩, fun m hm => by
        rcases List.mem_cons.1 hm with rfl | hm
        · exact addF_lt f _ _ hp
        · exact h2 m (List.mem_cons_of_mem _ hm)⟩
    · rename_i e
      obtain ⟨h5, h6⟩ := Apt.put hp c u (L := r) ⟨h4, fun m hm => h2 m (List.mem_cons_of_mem _ hm)⟩
      refine ⟨List.pairwise_cons.2 ⟨fun m hm => ?_, h5⟩, fun m hm => ?_⟩
      · rcases putM_vars f c u r m hm with h | ⟨m', h7, h8⟩
        · rw [h]; exact e
        · rw [← h8]; exact h3 m' h7
      · rcases List.mem_cons.1 hm with rfl | hm
        · exact h2 _ List.mem_cons_self
        · exact h6 m hm
theorem Apt.collect {f : Int} (hp : 0 < pOf f) : ∀ (s : List Mo) {L : List Mo}, Apt f L → Apt f (collect f L s)
  | [], L, h => h
  | m :: r, L, h => by
    unfold Go.Proofs.YtbgljelpldnldaaDoor.collect
    rw [List.foldl_cons]
    exact Apt.collect hp r (h.put hp m.1 (srtV m.2))
theorem Apt.norm {f : Int} {L : List Mo} (h : Apt f L) : NF f (normM L) := by
  have hn : (nz L).Pairwise (fun a b => a.2 ≠ b.2) := h.1.sublist (List.filter_sublist)
  have hd : (normM L).Pairwise (fun a b => a.2 ≠ b.2) := (List.Perm.pairwise_iff (fun {x y} e => Ne.symm e) (sortB_perm cmpS (nz L))).2 hn
  have asc : (normM L).Pairwise (fun a b => ¬ cmpS b a < 0) := by
    have key : ∀ l : List Mo, (sortB cmpS l).Pairwise (fun a b => ¬ cmpS b a < 0) := by
      have ins : ∀ (x : Mo) (l : List Mo), l.Pairwise (fun a b => ¬ cmpS b a < 0) → (insB cmpS x l).Pairwise (fun a b => ¬ cmpS b a < 0) := by
        intro x l
        induction l with
        | nil => intro _; simp [insB]
        | cons y r ih =>
          intro ha
          obtain ⟨h1, h2⟩ := List.pairwise_cons.1 ha
          unfold insB
          split
          · rename_i e
            refine List.pairwise_cons.2 ⟨fun z hz => ?_, ih h2⟩
            rcases List.mem_cons.1 ((insB_perm cmpS x r).mem_iff.1 hz) with rfl | hz
            · exact goodM.asymm e
            · exact h1 z hz
          · rename_i e
            refine List.pairwise_cons.2 ⟨fun z hz => ?_, ha⟩
            rcases List.mem_cons.1 hz with rfl | hz
            · exact e
            · exact goodM.ntrans (h1 z hz) e
      intro l
      induction l with
      | nil => exact List.Pairwise.nil
      | cons x r ih => exact ins x _ ih
    exact key _
  refine ⟨(asc.and hd).imp fun {a b} hab => ?_, fun m hm => ?_⟩
  · rcases goodM.lt_or a.2 b.2 with e | e | e
    · exact e
    · exact absurd e hab.2
    · exact absurd e hab.1
  · have h1 := List.mem_filter.1 ((sortB_perm cmpS (nz L)).mem_iff.1 hm)
    exact ⟨by simpa using h1.2, h.2 m h1.1⟩
theorem normS_nf (f : Int) (hp : 0 < pOf f) (s : List Mo) : NF f (normS f s) := (Apt.collect hp s (L := []) ⟨List.Pairwise.nil, by simp⟩).norm
/-- Whatever is in normal form and has the coefficients is the normal form. -/
theorem normS_only (f : Int) (hp : 0 < pOf f) (s : List Mo) {L : List Mo} (hL : NF f L) (h : ∀ u, coefN L u % pOf f = coefU s u % pOf f) : L = normS f s :=
  hL.unique (normS_nf f hp s) fun u => by rw [h u, coefN_norm f hp s u]
theorem normS_perm (f : Int) (hp : 0 < pOf f) {s t : List Mo} (h : s.Perm t) : normS f s = normS f t :=
  normS_only f hp t (normS_nf f hp s) fun u => by rw [coefN_norm f hp s u, coefU_perm h u]
theorem normS_twice (f : Int) (hp : 0 < pOf f) (s : List Mo) : normS f (normS f s) = normS f s := by
  refine (normS_only f hp (normS f s) (normS_nf f hp s) fun u => ?_).symm
  have e : coefU (normS f s) u = coefN (normS f s) u := by
    unfold coefU coefN
    congr 1
    refine List.map_congr_left fun m hm => ?_
    obtain ⟨m', _, h2⟩ := norm_vars f s m hm
    have : srtV m.2 = m.2 := by rw [h2]; exact sortB_congr goodV (sortB_perm cmpV _)
    rw [this]
  rw [e]
end Go.Proofs.YtbgljelpldnldaaDoor

/- Plain: constraint systems, and when they are valid. -/
namespace Go.Proofs.YtbgljelpldnldaaDoor
set_option linter.unusedVariables false

/-- A rule: its rows, and its sum. -/
abbrev Ru := Int × List Mo
/-- A permutation: its left and its right tuples. -/
abbrev Pm := List (List Vr) × List (List Vr)
/-- A lookup: its tuple, its table, its count. -/
structure Lk where (tu ta : List Vr) (ct : Vr)
/-- A system. -/
structure Sy where (f rows main pub : Int) (fixed : List (List Nat)) (rules : List Ru) (perms : List Pm) (looks : List Lk)
abbrev zRu : Ru := (0, [])
abbrev zPm : Pm := ([], [])
def zLk : Lk := ⟨[], [], zV⟩
def rowN (S : Sy) : Nat := 2 ^ S.rows.toNat
/-- The numbers of a system are those of a valid one. -/
def szS (S : Sy) : Bool :=
  validB S.f && decide (1 ≤ S.rows ∧ S.rows ≤ 13 ∧ S.rows ≤ (twoOf S.f : Int)) && decide (1 ≤ S.main ∧ S.main ≤ 64) && decide (0 ≤ S.pub ∧ S.pub ≤ 16) &&
    decide (S.fixed.length ≤ 64) && decide (S.rules.length ≤ 64) && decide (S.perms.length ≤ 4) && decide (S.looks.length ≤ 8)
def numK (S : Sy) (k : Int) : Int := if k = 1 then S.main else if k = 2 then S.main else if k = 3 then (S.fixed.length : Int) else if k = 4 then S.pub else 0
def hasV (S : Sy) (v : Vr) : Bool := decide (0 ≤ v.2 ∧ v.2 < numK S v.1)
def hasK (S : Sy) (ks : List Int) (v : Vr) : Bool := hasV S v && ks.contains v.1
def colB (S : Sy) (c : List Nat) : Bool := decide (c.length = rowN S) && isF S.f c
def moB (S : Sy) (ks : List Int) (m : Mo) : Bool := decide (m.1 < pOf S.f) && decide (m.2.length ≤ 8) && m.2.all (hasK S ks)
def ruB (S : Sy) (r : Ru) : Bool :=
  if r.1 = 1 ∨ r.1 = 2 then decide (r.2.length ≤ 64) && r.2.all (moB S [1, 3, 4, 2])
  else if r.1 = 3 ∨ r.1 = 4 then decide (degS r.2 ≤ 1) && (decide (r.2.length ≤ 64) && r.2.all (moB S [1, 3, 4]))
  else false
def tuB (S : Sy) (ks : List Int) (t : List Vr) : Bool := decide (1 ≤ t.length ∧ t.length ≤ 4) && t.all (hasK S ks)
def tnB (S : Sy) (n : Nat) (t : List Vr) : Bool := decide (t.length = n) && tuB S [1, 3] t
def pmB (S : Sy) (p : Pm) : Bool := decide (1 ≤ p.1.length ∧ p.1.length ≤ 4) && (decide (p.2.length = p.1.length) && (p.1 ++ p.2).all (tnB S (p.1.getD 0 []).length))
def lkB (S : Sy) (l : Lk) : Bool := decide (l.ta.length = l.tu.length) && (tuB S [1, 3] l.tu && (tuB S [3] l.ta && hasK S [1] l.ct))
/-- The system is valid. -/
def valSy (S : Sy) : Bool := szS S && (S.fixed.all (colB S) && (S.rules.all (ruB S) && (S.perms.all (pmB S) && S.looks.all (lkB S))))
/-- Its degree. -/
def degSy (S : Sy) : Nat :=
  if valSy S = true then max (S.perms.foldl (fun t p => max t (1 + p.1.length)) (S.rules.foldl (fun t r => max t (degS r.2)) 1)) (if S.looks = [] then 1 else 3) else 0

theorem szS_facts {S : Sy} (h : szS S = true) : validB S.f = true ∧ 1 ≤ S.rows ∧ S.rows ≤ 13 ∧ S.rows ≤ (twoOf S.f : Int) ∧ 1 ≤ S.main ∧ S.main ≤ 64 ∧ 0 ≤ S.pub ∧ S.pub ≤ 16 ∧ S.fixed.length ≤ 64 ∧ S.rules.length ≤ 64 ∧ S.perms.length ≤ 4 ∧ S.looks.length ≤ 8 := by
  unfold szS at h
  simp only [Bool.and_eq_true, decide_eq_true_eq] at h
  obtain ⟨⟨⟨⟨⟨⟨⟨h1, h2⟩, h3⟩, h4⟩, h5⟩, h6⟩, h7⟩, h8⟩ := h
  exact ⟨h1, h2.1, h2.2.1, h2.2.2, h3.1, h3.2, h4.1, h4.2, h5, h6, h7, h8⟩
theorem numK_bound {S : Sy} (h : szS S = true) (k : Int) : 0 ≤ numK S k ∧ numK S k ≤ 64 := by
  obtain ⟨_, _, _, _, h1, h2, h3, h4, h5, _⟩ := szS_facts h
  unfold numK
  split
  · omega
  split
  · omega
  split
  · omega
  split
  · omega
  · omega
theorem rowN_le {S : Sy} (h : szS S = true) : 2 ≤ rowN S ∧ rowN S ≤ 8192 := by
  obtain ⟨_, h1, h2, _⟩ := szS_facts h
  unfold rowN
  have a : 1 ≤ S.rows.toNat := by omega
  have b : S.rows.toNat ≤ 13 := by omega
  exact ⟨Nat.le_trans (by decide : 2 ≤ 2 ^ 1) (Nat.pow_le_pow_right (by omega) a), Nat.le_trans (Nat.pow_le_pow_right (by omega) b) (by decide)⟩
/-- All of a list, one after the other: the first that fails. -/
theorem all_getD {α : Type} (p : α → Bool) (z : α) (l : List α) : l.all p = true ↔ ∀ i, i < l.length → p (l.getD i z) = true := by
  rw [List.all_eq_true]
  constructor
  · intro h i hi
    rw [List.getD_eq_getElem?_getD, List.getElem?_eq_getElem hi]; exact h _ (List.getElem_mem _)
  · intro h x hx
    obtain ⟨i, hi, rfl⟩ := List.getElem_of_mem hx
    have := h i hi
    rwa [List.getD_eq_getElem?_getD, List.getElem?_eq_getElem hi] at this
end Go.Proofs.YtbgljelpldnldaaDoor
