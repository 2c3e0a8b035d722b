/- Plain: variables, lists of them, their order, sums of monomials in normal form. -/
import Derived.Test.YtnanjacllmdenaaDoorKc01
import Derived.Lib.Small
import Derived.Lib.ItoaNum
import Derived.Sort.Statements
set_option linter.unusedSimpArgs false
set_option linter.unusedVariables false
/- Plain: variables, lists of them, their order, sums of monomials in normal form. -/
namespace Go.Proofs.YtnanjacllmdenaaDoor
open Go.Sort
set_option linter.unusedVariables false

/-- A variable: its kind and its index. -/
abbrev Vr := Int × Int
/-- A monomial: its coefficient and its variables. -/
abbrev Mo := Nat × List Vr
abbrev zV : Vr := (0, 0)
abbrev zM : Mo := (0, [])
def okV (v : Vr) : Prop := 0 ≤ v.1 ∧ v.1 ≤ 255 ∧ -9223372036854775808 ≤ v.2 ∧ v.2 ≤ 9223372036854775807
theorem zV_ok : okV zV := by unfold okV; decide

section
variable {α : Type} {c : α → α → Int}
end

/-! ### Sums in the making -/
/-- A monomial with variables in order is added. -/
def putM (f : Int) : List Mo → Nat → List Vr → List Mo
  | [], c, u => [(addF f 0 c, u)]
  | (d, v) :: r, c, u => if v = u then (addF f d c, v) :: r else (d, v) :: putM f r c u
end Go.Proofs.YtnanjacllmdenaaDoor

/- Plain: values and degrees of sums of monomials; the normal form keeps them; it is the only one. -/
namespace Go.Proofs.YtnanjacllmdenaaDoor
open Go.Sort
set_option linter.unusedVariables false

def prodV (f : Int) (e : Vr → Nat) (c : Nat) (vs : List Vr) : Nat := vs.foldl (fun x v => mulF f x (e v)) c
def valS (f : Int) (e : Vr → Nat) (s : List Mo) : Nat := s.foldl (fun t m => addF f t (prodV f e m.1 m.2)) 0
/-! ### The variables of a normal form are those of the sum -/
theorem putM_vars (f : Int) (c : Nat) (u : List Vr) : ∀ (L : List Mo) (m : Mo), m ∈ putM f L c u → m.2 = u ∨ ∃ m' ∈ L, m'.2 = m.2
  | [], m, h => by
    simp only [putM, List.mem_singleton] at h
    subst h; exact .inl rfl
  | (d, v) :: r, m, h => by
    unfold putM at h
    split at h
    · rename_i e
      rcases List.mem_cons.1 h with rfl | h
      · exact .inl e
      · exact .inr ⟨m, List.mem_cons_of_mem _ h, rfl⟩
    · rcases List.mem_cons.1 h with rfl | h
      · exact .inr ⟨_, List.mem_cons_self, rfl⟩
      · rcases putM_vars f c u r m h with h | ⟨m', h1, h2⟩
        · exact .inl h
        · exact .inr ⟨m', List.mem_cons_of_mem _ h1, h2⟩
def allIn (has : Vr → Bool) (s : List Mo) : Bool := s.all fun m => m.2.all has
/-! ### Degrees -/
def isCol (k : Int) : Bool := decide (k = 1) || decide (k = 2) || decide (k = 3) || decide (k = 5) || decide (k = 6)
def degM (vs : List Vr) : Nat := (vs.filter fun v => isCol v.1).length
def degS (s : List Mo) : Nat := s.foldl (fun t m => max t (degM m.2)) 0
theorem degS_le {s : List Mo} {n : Nat} : degS s ≤ n ↔ ∀ m ∈ s, degM m.2 ≤ n := by
  have key : ∀ (s : List Mo) (t : Nat), s.foldl (fun t m => max t (degM m.2)) t ≤ n ↔ t ≤ n ∧ ∀ m ∈ s, degM m.2 ≤ n := by
    intro s
    induction s with
    | nil => intro t; simp
    | cons m r ih =>
      intro t
      rw [List.foldl_cons, ih]
      constructor
      · rintro ⟨h1, h2⟩
        exact ⟨by omega, fun x hx => by rcases List.mem_cons.1 hx with rfl | hx; · omega
                                        · exact h2 x hx⟩
      · rintro ⟨h1, h2⟩
        have := h2 m List.mem_cons_self
        exact ⟨by omega, fun x hx => h2 x (List.mem_cons_of_mem _ hx)⟩
  unfold degS
  rw [key]; simp
theorem degM_append (u v : List Vr) : degM (u ++ v) = degM u + degM v := by simp [degM]
/-! ### The normal form is the only one -/
/-- The variables of the monomials differ. -/
def Apt (f : Int) (L : List Mo) : Prop := L.Pairwise (fun a b => a.2 ≠ b.2) ∧ ∀ m ∈ L, m.1 < pOf f
theorem Apt.put {f : Int} (hp : 0 < pOf f) (c : Nat) (u : List Vr) : ∀ {L : List Mo}, Apt f L → Apt f (putM f L c u)
  | [], _ => ⟨by simp [putM], fun m hm => by
      simp only [putM, List.mem_singleton] at hm; subst hm; exact addF_lt f _ _ hp⟩
  | (d, v) :: r, ⟨h1, h2⟩ => by
    obtain ⟨h3, h4⟩ := List.pairwise_cons.1 h1
    unfold putM
    split
    · rename_i e
      exact ⟨List.pairwise_cons.2 ⟨h3, h4⟩, fun m hm => by
        rcases List.mem_cons.1 hm with rfl | hm
        · exact addF_lt f _ _ hp
        · exact h2 m (List.mem_cons_of_mem _ hm)⟩
    · rename_i e
      obtain ⟨h5, h6⟩ := Apt.put hp c u (L := r) ⟨h4, fun m hm => h2 m (List.mem_cons_of_mem _ hm)⟩
      refine ⟨List.pairwise_cons.2 ⟨fun m hm => ?_, h5⟩, fun m hm => ?_⟩
      · rcases putM_vars f c u r m hm with h | ⟨m', h7, h8⟩
        · rw [h]; exact e
        · rw [← h8]; exact h3 m' h7
      · rcases List.mem_cons.1 hm with rfl | hm
        · exact h2 _ List.mem_cons_self
        · exact h6 m hm
end Go.Proofs.YtnanjacllmdenaaDoor

/- Plain: constraint systems, and when they are valid. -/
namespace Go.Proofs.YtnanjacllmdenaaDoor
set_option linter.unusedVariables false

/-- A rule: its rows, and its sum. -/
abbrev Ru := Int × List Mo
/-- A permutation: its left and its right tuples. -/
abbrev Pm := List (List Vr) × List (List Vr)
/-- A lookup: its tuple, its table, its count. -/
structure Lk where (tu ta : List Vr) (ct : Vr)
/-- A system. -/
structure Sy where (f rows main pub : Int) (fixed : List (List Nat)) (rules : List Ru) (perms : List Pm) (looks : List Lk)
abbrev zRu : Ru := (0, [])
abbrev zPm : Pm := ([], [])
def zLk : Lk := ⟨[], [], zV⟩
def rowN (S : Sy) : Nat := 2 ^ S.rows.toNat
/-- The numbers of a system are those of a valid one. -/
def szS (S : Sy) : Bool :=
  validB S.f && decide (1 ≤ S.rows ∧ S.rows ≤ 13 ∧ S.rows ≤ (twoOf S.f : Int)) && decide (1 ≤ S.main ∧ S.main ≤ 64) && decide (0 ≤ S.pub ∧ S.pub ≤ 16) &&
    decide (S.fixed.length ≤ 64) && decide (S.rules.length ≤ 64) && decide (S.perms.length ≤ 4) && decide (S.looks.length ≤ 8)
def numK (S : Sy) (k : Int) : Int := if k = 1 then S.main else if k = 2 then S.main else if k = 3 then (S.fixed.length : Int) else if k = 4 then S.pub else 0
def hasV (S : Sy) (v : Vr) : Bool := decide (0 ≤ v.2 ∧ v.2 < numK S v.1)
def hasK (S : Sy) (ks : List Int) (v : Vr) : Bool := hasV S v && ks.contains v.1
def colB (S : Sy) (c : List Nat) : Bool := decide (c.length = rowN S) && isF S.f c
def moB (S : Sy) (ks : List Int) (m : Mo) : Bool := decide (m.1 < pOf S.f) && decide (m.2.length ≤ 8) && m.2.all (hasK S ks)
def ruB (S : Sy) (r : Ru) : Bool :=
  if r.1 = 1 ∨ r.1 = 2 then decide (r.2.length ≤ 64) && r.2.all (moB S [1, 3, 4, 2])
  else if r.1 = 3 ∨ r.1 = 4 then decide (degS r.2 ≤ 1) && (decide (r.2.length ≤ 64) && r.2.all (moB S [1, 3, 4]))
  else false
def tuB (S : Sy) (ks : List Int) (t : List Vr) : Bool := decide (1 ≤ t.length ∧ t.length ≤ 4) && t.all (hasK S ks)
def tnB (S : Sy) (n : Nat) (t : List Vr) : Bool := decide (t.length = n) && tuB S [1, 3] t
def pmB (S : Sy) (p : Pm) : Bool := decide (1 ≤ p.1.length ∧ p.1.length ≤ 4) && (decide (p.2.length = p.1.length) && (p.1 ++ p.2).all (tnB S (p.1.getD 0 []).length))
def lkB (S : Sy) (l : Lk) : Bool := decide (l.ta.length = l.tu.length) && (tuB S [1, 3] l.tu && (tuB S [3] l.ta && hasK S [1] l.ct))
/-- The system is valid. -/
def valSy (S : Sy) : Bool := szS S && (S.fixed.all (colB S) && (S.rules.all (ruB S) && (S.perms.all (pmB S) && S.looks.all (lkB S))))
/-- Its degree. -/
def degSy (S : Sy) : Nat :=
  if valSy S = true then max (S.perms.foldl (fun t p => max t (1 + p.1.length)) (S.rules.foldl (fun t r => max t (degS r.2)) 1)) (if S.looks = [] then 1 else 3) else 0

theorem szS_facts {S : Sy} (h : szS S = true) : validB S.f = true ∧ 1 ≤ S.rows ∧ S.rows ≤ 13 ∧ S.rows ≤ (twoOf S.f : Int) ∧ 1 ≤ S.main ∧ S.main ≤ 64 ∧ 0 ≤ S.pub ∧ S.pub ≤ 16 ∧ S.fixed.length ≤ 64 ∧ S.rules.length ≤ 64 ∧ S.perms.length ≤ 4 ∧ S.looks.length ≤ 8 := by
  unfold szS at h
  simp only [Bool.and_eq_true, decide_eq_true_eq] at h
  obtain ⟨⟨⟨⟨⟨⟨⟨h1, h2⟩, h3⟩, h4⟩, h5⟩, h6⟩, h7⟩, h8⟩ := h
  exact ⟨h1, h2.1, h2.2.1, h2.2.2, h3.1, h3.2, h4.1, h4.2, h5, h6, h7, h8⟩
theorem numK_bound {S : Sy} (h : szS S = true) (k : Int) : 0 ≤ numK S k ∧ numK S k ≤ 64 := by
  obtain ⟨_, _, _, _, h1, h2, h3, h4, h5, _⟩ := szS_facts h
  unfold numK
  split
  · omega
  split
  · omega
  split
  · omega
  split
  · omega
  · omega
theorem rowN_le {S : Sy} (h : szS S = true) : 2 ≤ rowN S ∧ rowN S ≤ 8192 := by
  obtain ⟨_, h1, h2, _⟩ := szS_facts h
  unfold rowN
  have a : 1 ≤ S.rows.toNat := by omega
  have b : S.rows.toNat ≤ 13 := by omega
  exact ⟨Nat.le_trans (by decide : 2 ≤ 2 ^ 1) (Nat.pow_le_pow_right (by omega) a), Nat.le_trans (Nat.pow_le_pow_right (by omega) b) (by decide)⟩
/-- All of a list, one after the other: the first that fails. -/
theorem all_getD {α : Type} (p : α → Bool) (z : α) (l : List α) : l.all p = true ↔ ∀ i, i < l.length → p (l.getD i z) = true := by
  rw [List.all_eq_true]
  constructor
  · intro h i hi
    rw [List.getD_eq_getElem?_getD, List.getElem?_eq_getElem hi]; exact h _ (List.getElem_mem _)
  · intro h x hx
    obtain ⟨i, hi, rfl⟩ := List.getElem_of_mem hx
    have := h i hi
    rwa [List.getD_eq_getElem?_getD, List.getElem?_eq_getElem hi] at this
end Go.Proofs.YtnanjacllmdenaaDoor

/- Plain: the key of a list of variables; different lists have different keys. -/
namespace Go.Proofs.YtnanjacllmdenaaDoor
open Go.Lib
set_option linter.unusedVariables false

end Go.Proofs.YtnanjacllmdenaaDoor
