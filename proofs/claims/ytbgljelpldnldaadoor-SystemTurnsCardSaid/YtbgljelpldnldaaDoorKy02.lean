/- SystemTurns: plain part: what a turn of all columns leaves as it is. -/
import Derived.Test.YtbgljelpldnldaaDoorKp05
import Derived.Test.YtbgljelpldnldaaDoorKy01
set_option linter.unusedSimpArgs false
set_option linter.unusedVariables false
/- SystemTurns: plain part: what a turn of all columns leaves as it is. -/
namespace Go.Proofs.YtbgljelpldnldaaDoor
open Go.RowKit Go.Lib
set_option linter.unusedVariables false

/-- A column turned by b rows. -/
def rotC (b : Nat) (c : List Nat) : List Nat := (List.range c.length).map fun i => c.getD ((i + b) % c.length) 0
theorem rotC_len (b : Nat) (c : List Nat) : (rotC b c).length = c.length := by simp [rotC]
theorem rotC_get (b : Nat) (c : List Nat) (k : Nat) (hk : k < c.length) : (rotC b c).getD k 0 = c.getD ((k + b) % c.length) 0 := by
  unfold rotC
  rw [List.getD_eq_getElem?_getD, List.getElem?_map, List.getElem?_range hk]; rfl
/-- All rules asked in all rows. -/
def allR (l : List Ru) : List Ru := l.map fun r => (1, r.2)
def Sy.all1 (S : Sy) : Sy := ⟨S.f, S.rows, S.main, S.pub, S.fixed, allR S.rules, S.perms, S.looks⟩
def Sy.rot (S : Sy) (b : Nat) : Sy := ⟨S.f, S.rows, S.main, S.pub, S.fixed.map (rotC b), S.rules, S.perms, S.looks⟩
def Tr.rot (T : Tr) (b : Nat) : Tr := ⟨T.pub, T.main.map (rotC b)⟩
theorem acr_rot (b : Nat) (cols : List (List Nat)) (n k : Nat) (h : ∀ c ∈ cols, c.length = n) (hk : k < n) : acrS (cols.map (rotC b)) k = acrS cols ((k + b) % n) := by
  unfold acrS
  rw [List.map_map]
  apply List.map_congr_left
  intro c hc
  have hl := h c hc
  show (rotC b c).getD k 0 = _
  rw [rotC_get b c k (by omega), hl]
theorem next_rot (n k b : Nat) : ((k + 1) % n + b) % n = ((k + b) % n + 1) % n := by
  rw [Nat.mod_add_mod, Nat.mod_add_mod]; congr 1; omega
theorem env_rot (S : Sy) (T : Tr) (b k : Nat) (hk : k < rowN S) (hf : ∀ c ∈ S.fixed, c.length = rowN S) (hm : ∀ c ∈ T.main, c.length = rowN S) : envS (S.rot b) (T.rot b) k = envS S T ((k + b) % rowN S) := by
  have hn : rowN (S.rot b) = rowN S := rfl
  have hn0 : 0 < rowN S := by omega
  unfold envS
  rw [hn]
  show En.mk (acrS (T.main.map (rotC b)) k) (acrS (T.main.map (rotC b)) ((k + 1) % rowN S)) (acrS (S.fixed.map (rotC b)) k) T.pub [] [] [] = _
  rw [acr_rot b _ _ k hm hk, acr_rot b _ _ _ hm (Nat.mod_lt _ hn0), acr_rot b _ _ k hf hk, next_rot]
theorem rng_rot (n b : Nat) : ((List.range n).map fun k => (k + b) % n).Perm (List.range n) := by
  rcases Nat.eq_zero_or_pos n with h0 | h0
  · subst h0; simp
  have hb : b % n < n := Nat.mod_lt _ h0
  have e : ((List.range n).map fun k => (k + b) % n) = (List.range n).drop (b % n) ++ (List.range n).take (b % n) := by
    apply List.ext_getElem
    · simp; omega
    · intro i h1 h2
      simp at h1
      rw [List.getElem_map, List.getElem_range, ← Nat.add_mod_mod]
      by_cases hi : i < n - b % n
      · rw [List.getElem_append_left (by simpa using hi)]
        simp only [List.getElem_drop, List.getElem_range]
        rw [Nat.mod_eq_of_lt (by omega)]; omega
      · rw [List.getElem_append_right (by simpa using hi)]
        simp only [List.getElem_take, List.getElem_range, List.length_drop, List.length_range]
        rw [Nat.mod_eq_sub_mod (by omega), Nat.mod_eq_of_lt (by omega)]; omega
  rw [e]
  exact List.perm_append_comm.trans (by rw [List.take_append_drop])
theorem all_rot (n b : Nat) (P : Nat → Prop) : (∀ k, k < n → P ((k + b) % n)) ↔ ∀ k, k < n → P k := by
  have hp := rng_rot n b
  constructor
  · intro h k hk
    have hm : k ∈ (List.range n).map fun k => (k + b) % n := hp.mem_iff.2 (List.mem_range.2 hk)
    obtain ⟨j, hj, rfl⟩ := List.mem_map.1 hm
    exact h j (List.mem_range.1 hj)
  · intro h k hk
    exact h _ (Nat.mod_lt _ (by omega))
theorem rules_none (S : Sy) (T : Tr) (n : Nat) : rulesF S T n = [] ↔ ∀ i, i < n → ∀ k, k < rowN S → okR S T i k = true := by
  unfold rulesF rowF
  simp only [List.flatMap_eq_nil_iff, List.mem_range, List.map_eq_nil_iff, List.filter_eq_nil_iff]
  constructor
  · intro h i hi k hk
    have := h i hi k hk
    simpa using this
  · intro h i hi k hk
    simp [h i hi k hk]
theorem ok_rot (S : Sy) (T : Tr) (b i k : Nat) (hi : i < S.rules.length) (h1 : ∀ r ∈ S.rules, r.1 = 1) (hk : k < rowN S) (hf : ∀ c ∈ S.fixed, c.length = rowN S) (hm : ∀ c ∈ T.main, c.length = rowN S) : okR (S.rot b) (T.rot b) i k = okR S T i ((k + b) % rowN S) := by
  have hr : (S.rules.getD i zRu).1 = 1 := h1 _ (by rw [List.getD_eq_getElem?_getD, List.getElem?_eq_getElem hi]; exact List.getElem_mem _)
  unfold okR
  rw [env_rot S T b k hk hf hm]
  show (!askB (S.rules.getD i zRu).1 _ _ || holdB S.f _ (S.rules.getD i zRu).2) = _
  rw [hr]
  simp [askB]
theorem rules_rot (S : Sy) (T : Tr) (b : Nat) (h1 : ∀ r ∈ S.rules, r.1 = 1) (hf : ∀ c ∈ S.fixed, c.length = rowN S) (hm : ∀ c ∈ T.main, c.length = rowN S) : rulesF (S.rot b) (T.rot b) S.rules.length = [] ↔ rulesF S T S.rules.length = [] := by
  rw [rules_none, rules_none]
  have hn : rowN (S.rot b) = rowN S := rfl
  rw [hn]
  constructor
  · intro h i hi
    refine (all_rot (rowN S) b (fun k => okR S T i k = true)).1 fun k hk => ?_
    show okR S T i ((k + b) % rowN S) = true
    rw [← ok_rot S T b i k hi h1 hk hf hm]; exact h i hi k hk
  · intro h i hi k hk
    rw [ok_rot S T b i k hi h1 hk hf hm]; exact h i hi _ (Nat.mod_lt _ (by omega))
theorem keys_rot (S : Sy) (T : Tr) (b : Nat) (tl : List (List Vr)) (hf : ∀ c ∈ S.fixed, c.length = rowN S) (hm : ∀ c ∈ T.main, c.length = rowN S) : (keysK (envS (S.rot b) (T.rot b)) tl (rowN S)).Perm (keysK (envS S T) tl (rowN S)) := by
  unfold keysK
  have e : (List.range (rowN S)).flatMap (fun k => rowK (envS (S.rot b) (T.rot b) k) tl) = ((List.range (rowN S)).map fun k => (k + b) % rowN S).flatMap fun k => rowK (envS S T k) tl := by
    rw [List.flatMap_map, List.flatMap_def, List.flatMap_def]
    congr 1
    apply List.map_congr_left
    intro k hk
    rw [env_rot S T b k (List.mem_range.1 hk) hf hm]
  rw [e]
  exact (rng_rot _ b).flatMap_right _
theorem pm_rot (S : Sy) (T : Tr) (b : Nat) (p : Pm) (hf : ∀ c ∈ S.fixed, c.length = rowN S) (hm : ∀ c ∈ T.main, c.length = rowN S) : pmH (S.rot b) (T.rot b) p ↔ pmH S T p := by
  unfold pmH
  have hn : rowN (S.rot b) = rowN S := rfl
  rw [hn]
  constructor <;> intro h s <;> have := h s
  · rw [← (keys_rot S T b p.1 hf hm).count_eq s, ← (keys_rot S T b p.2 hf hm).count_eq s]; exact this
  · rw [(keys_rot S T b p.1 hf hm).count_eq s, (keys_rot S T b p.2 hf hm).count_eq s]; exact this
/-- What one row adds to the count of a text. -/
def lkG (f : Int) (l : Lk) (s : Key) (e : En) : Nat := (if s = txtT (l.tu.map (valE e)) then 1 else 0) + (if s = txtT (l.ta.map (valE e)) then pOf f - valE e l.ct % pOf f else 0)
theorem lkF_sum (f : Int) (E : Nat → En) (l : Lk) (hp : 0 < pOf f) (s : Key) : ∀ n, lkF f E l n s = ((List.range n).map fun k => lkG f l s (E k)).sum % pOf f
  | 0 => by simp [lkF]
  | n + 1 => by
    rw [List.range_succ, List.map_append, List.sum_append]
    have ih := lkF_sum f E l hp s n
    generalize ((List.range n).map fun k => lkG f l s (E k)).sum = X at *
    simp only [lkF, lkStep, lkG, List.map_cons, List.map_nil, List.sum_cons, List.sum_nil, Nat.add_zero]
    have hp0 : ¬ pOf f = 0 := by omega
    generalize hv : pOf f - valE (E n) l.ct % pOf f = v at *
    by_cases h1 : s = txtT (l.ta.map (valE (E n)))
    · rw [if_pos h1, if_pos h1, ← h1]
      by_cases h2 : s = txtT (l.tu.map (valE (E n)))
      · rw [if_pos h2, if_pos h2, ← h2]
        simp only [addF, subF, if_neg hp0, ih, hv]
        rw [Nat.mod_add_mod, Nat.add_assoc, Nat.mod_add_mod]
      · rw [if_neg h2, if_neg h2]
        simp only [subF, if_neg hp0, ih, hv]
        rw [Nat.mod_add_mod, Nat.zero_add]
    · rw [if_neg h1, if_neg h1]
      by_cases h2 : s = txtT (l.tu.map (valE (E n)))
      · rw [if_pos h2, if_pos h2, ← h2]
        simp only [addF, if_neg hp0, ih]
        rw [Nat.mod_add_mod]
      · rw [if_neg h2, if_neg h2, ih]
        rfl
theorem lk_rot (S : Sy) (T : Tr) (b : Nat) (l : Lk) (hp : 0 < pOf S.f) (hf : ∀ c ∈ S.fixed, c.length = rowN S) (hm : ∀ c ∈ T.main, c.length = rowN S) : lkH (S.rot b) (T.rot b) l ↔ lkH S T l := by
  unfold lkH
  have hn : rowN (S.rot b) = rowN S := rfl
  have hff : (S.rot b).f = S.f := rfl
  rw [hn, hff]
  have e : ∀ s, lkF S.f (envS (S.rot b) (T.rot b)) l (rowN S) s = lkF S.f (envS S T) l (rowN S) s := fun s => by
    rw [lkF_sum _ _ _ hp, lkF_sum _ _ _ hp]
    congr 1
    have e2 : (List.range (rowN S)).map (fun k => lkG S.f l s (envS (S.rot b) (T.rot b) k)) = ((List.range (rowN S)).map fun k => (k + b) % rowN S).map fun k => lkG S.f l s (envS S T k) := by
      rw [List.map_map]
      apply List.map_congr_left
      intro k hk
      show _ = lkG S.f l s (envS S T ((k + b) % rowN S))
      rw [env_rot S T b k (List.mem_range.1 hk) hf hm]
    rw [e2]
    exact ((rng_rot _ b).map _).sum_nat
  simp only [e]
theorem all1_one (S : Sy) : ∀ r ∈ S.all1.rules, r.1 = 1 := fun r hr => by
  obtain ⟨x, _, rfl⟩ := List.mem_map.1 hr; rfl
theorem all1_len (S : Sy) : S.all1.rules.length = S.rules.length := by simp [Sy.all1, allR]
theorem hasV_all1 (S : Sy) (v : Vr) : hasV S.all1 v = hasV S v := rfl
theorem hasV_rot (S : Sy) (b : Nat) (v : Vr) : hasV (S.rot b) v = hasV S v := by unfold hasV numK Sy.rot; simp
theorem hasK_sub (S : Sy) (v : Vr) (h : hasK S [1, 3, 4] v = true) : hasK S [1, 3, 4, 2] v = true := by
  unfold hasK at h ⊢
  simp only [Bool.and_eq_true] at h ⊢
  refine ⟨h.1, ?_⟩
  have := h.2
  simp at this ⊢
  omega
theorem mo_sub (S : Sy) (m : Mo) (h : moB S [1, 3, 4] m = true) : moB S [1, 3, 4, 2] m = true := by
  unfold moB at h ⊢
  simp only [Bool.and_eq_true, List.all_eq_true] at h ⊢
  exact ⟨h.1, fun v hv => hasK_sub S v (h.2 v hv)⟩
theorem ru_all1 (S : Sy) (r : Ru) (h : ruB S r = true) : ruB S.all1 (1, r.2) = true := by
  have e : ∀ m, moB S.all1 [1, 3, 4, 2] m = moB S [1, 3, 4, 2] m := fun m => rfl
  have key : (decide (r.2.length ≤ 64) && r.2.all (moB S [1, 3, 4, 2])) = true := by
    unfold ruB at h
    split at h
    · exact h
    · split at h
      · simp only [Bool.and_eq_true, List.all_eq_true] at h ⊢
        exact ⟨h.2.1, fun m hm => mo_sub S m (h.2.2 m hm)⟩
      · cases h
  unfold ruB
  rw [if_pos (Or.inl rfl)]
  exact key
theorem fit_all1 (S : Sy) (T : Tr) (h : fitS S T = true) : fitS S.all1 T = true := by
  unfold fitS valSy at h ⊢
  simp only [Bool.and_eq_true] at h ⊢
  obtain ⟨⟨h1, h2, h3, h4, h5⟩, h6⟩ := h
  refine ⟨⟨?_, h2, ?_, h4, h5⟩, h6⟩
  · unfold szS at h1 ⊢
    simp only [Bool.and_eq_true] at h1 ⊢
    obtain ⟨⟨⟨a, b⟩, c⟩, d⟩ := h1
    refine ⟨⟨⟨a, ?_⟩, c⟩, d⟩
    rw [all1_len]; exact b
  · rw [List.all_eq_true] at h3 ⊢
    intro r hr
    obtain ⟨x, hx, rfl⟩ := List.mem_map.1 hr
    exact ru_all1 S x (h3 x hx)
theorem isF_rot (f : Int) (b : Nat) (c : List Nat) (h : isF f c = true) : isF f (rotC b c) = true := by
  unfold isF at h ⊢
  simp only [Bool.and_eq_true, List.all_eq_true, decide_eq_true_eq] at h ⊢
  refine ⟨fun x hx => ?_, h.2⟩
  obtain ⟨i, hi, rfl⟩ := List.mem_map.1 hx
  have hi' := List.mem_range.1 hi
  exact h.1 _ (getD_mem _ _ (Nat.mod_lt _ (by omega)))
theorem col_rot (S : Sy) (b : Nat) (c : List Nat) (h : colB S c = true) : colB (S.rot b) (rotC b c) = true := by
  unfold colB at h ⊢
  simp only [Bool.and_eq_true, decide_eq_true_eq] at h ⊢
  exact ⟨(rotC_len b c).trans h.1, isF_rot S.f b c h.2⟩
theorem hasK_rot (S : Sy) (b : Nat) (ks : List Int) (v : Vr) : hasK (S.rot b) ks v = hasK S ks v := by unfold hasK; rw [hasV_rot]
theorem tu_rot (S : Sy) (b : Nat) (ks : List Int) (l : List Vr) : tuB (S.rot b) ks l = tuB S ks l := by
  unfold tuB
  rw [show hasK (S.rot b) ks = hasK S ks from funext (hasK_rot S b ks)]
theorem tn_rot (S : Sy) (b n : Nat) : tnB (S.rot b) n = tnB S n := funext fun l => by unfold tnB; rw [tu_rot]
theorem pmB_rot (S : Sy) (b : Nat) : pmB (S.rot b) = pmB S := funext fun p => by unfold pmB; rw [tn_rot]
theorem lkB_rot (S : Sy) (b : Nat) : lkB (S.rot b) = lkB S := funext fun l => by unfold lkB; rw [tu_rot, tu_rot, hasK_rot]
theorem moB_rot (S : Sy) (b : Nat) (ks : List Int) : moB (S.rot b) ks = moB S ks := funext fun m => by
  unfold moB
  rw [show hasK (S.rot b) ks = hasK S ks from funext (hasK_rot S b ks)]; rfl
theorem ruB_rot (S : Sy) (b : Nat) : ruB (S.rot b) = ruB S := funext fun r => by unfold ruB; rw [moB_rot, moB_rot]
theorem fit_rot (S : Sy) (T : Tr) (b : Nat) (h : fitS S T = true) : fitS (S.rot b) (T.rot b) = true := by
  unfold fitS valSy at h ⊢
  simp only [Bool.and_eq_true] at h ⊢
  obtain ⟨⟨h1, h2, h3, h4, h5⟩, h6, h7, h8, h9⟩ := h
  have cols : ∀ l : List (List Nat), l.all (colB S) = true → (l.map (rotC b)).all (colB (S.rot b)) = true := fun l hl => by
    rw [List.all_eq_true] at hl ⊢
    intro c hc
    obtain ⟨x, hx, rfl⟩ := List.mem_map.1 hc
    exact col_rot S b x (hl x hx)
  refine ⟨⟨?_, cols _ h2, by rw [ruB_rot]; exact h3, by rw [pmB_rot]; exact h4, by rw [lkB_rot]; exact h5⟩, h6, h7, ?_, cols _ h9⟩
  · unfold szS at h1 ⊢
    have e : (S.rot b).fixed.length = S.fixed.length := by simp [Sy.rot]
    rw [e]; exact h1
  · have e : (T.rot b).main.length = T.main.length := by simp [Tr.rot]
    rw [e]; exact h8
theorem fit_cols {S : Sy} {T : Tr} (h : fitS S T = true) : (∀ c ∈ S.fixed, c.length = rowN S) ∧ ∀ c ∈ T.main, c.length = rowN S := by
  unfold fitS valSy at h
  simp only [Bool.and_eq_true, List.all_eq_true] at h
  obtain ⟨⟨_, h2, _⟩, _, _, _, h9⟩ := h
  have key : ∀ c, colB S c = true → c.length = rowN S := fun c hc => by
    unfold colB at hc; simp only [Bool.and_eq_true, decide_eq_true_eq] at hc; exact hc.1
  exact ⟨fun c hc => key c (h2 c hc), fun c hc => key c (h9 c hc)⟩
/-- All faults of a fitting trace, given what the permutations and lookups answer. -/
def allF (S : Sy) (T : Tr) (PB LB : Nat → Bool) : List Fa := (rulesF S T S.rules.length ++ badF (S.rules.length : Int) PB S.perms.length) ++ badF ((S.rules.length : Int) + (S.perms.length : Int)) LB S.looks.length
theorem badF_nil (o : Int) (B : Nat → Bool) (n : Nat) : badF o B n = [] ↔ ∀ i, i < n → B i = true := by
  unfold badF
  simp only [List.map_eq_nil_iff, List.filter_eq_nil_iff, List.mem_range]
  constructor
  · intro h i hi; have := h i hi; simpa using this
  · intro h i hi; simp [h i hi]
/-- Turning all columns changes no answer. -/
theorem turn_same (S : Sy) (T : Tr) (b : Nat) (PB LB PB2 LB2 : Nat → Bool) (h : fitS S T = true) (h1 : ∀ r ∈ S.rules, r.1 = 1)
    (hPB : ∀ i, i < S.perms.length → (PB i = true ↔ pmH S T (S.perms.getD i zPm))) (hLB : ∀ i, i < S.looks.length → (LB i = true ↔ lkH S T (S.looks.getD i zLk)))
    (hPB2 : ∀ i, i < S.perms.length → (PB2 i = true ↔ pmH (S.rot b) (T.rot b) (S.perms.getD i zPm))) (hLB2 : ∀ i, i < S.looks.length → (LB2 i = true ↔ lkH (S.rot b) (T.rot b) (S.looks.getD i zLk))) :
    (((allF S T PB LB).length : Int) == 0) = (((allF (S.rot b) (T.rot b) PB2 LB2).length : Int) == 0) := by
  obtain ⟨hf, hm⟩ := fit_cols h
  have hp : 0 < pOf S.f := by
    have hv : valSy S = true := by unfold fitS at h; simp only [Bool.and_eq_true] at h; exact h.1
    have hs : szS S = true := by unfold valSy at hv; simp only [Bool.and_eq_true] at hv; exact hv.1
    exact (valid_iff _).1 (szS_facts hs).1
  have key : allF S T PB LB = [] ↔ allF (S.rot b) (T.rot b) PB2 LB2 = [] := by
    unfold allF
    simp only [List.append_eq_nil_iff, badF_nil]
    have e := rules_rot S T b h1 hf hm
    constructor
    · rintro ⟨⟨x, y⟩, z⟩
      exact ⟨⟨e.2 x, fun i hi => (hPB2 i hi).2 ((pm_rot S T b _ hf hm).2 ((hPB i hi).1 (y i hi)))⟩, fun i hi => (hLB2 i hi).2 ((lk_rot S T b _ hp hf hm).2 ((hLB i hi).1 (z i hi)))⟩
    · rintro ⟨⟨x, y⟩, z⟩
      exact ⟨⟨e.1 x, fun i hi => (hPB i hi).2 ((pm_rot S T b _ hf hm).1 ((hPB2 i hi).1 (y i hi)))⟩, fun i hi => (hLB i hi).2 ((lk_rot S T b _ hp hf hm).1 ((hLB2 i hi).1 (z i hi)))⟩
  rw [Bool.eq_iff_iff]
  simp only [beq_iff_eq]
  have c : ∀ l : List Fa, ((l.length : Int) = 0) ↔ l = [] := fun l => by cases l <;> simp; omega
  rw [c, c]; exact key
end Go.Proofs.YtbgljelpldnldaaDoor

/- SystemTurns: the law's turned: what the call returns. -/
namespace Go.Proofs.YtbgljelpldnldaaDoor
open Go.RowKit Go.Lib
set_option linter.unusedVariables false

theorem step_appendZ {P : Program} {w w' : World} {ops : Array Oper} {o : Oper} {a : Act} {K : Act → World → Prop} {Q : Exit → Act → World → Prop} {E : Prop} (hgd : o.guard = none) (s x : Operand) (t u : TypeId)
    (ho : o.op = .call { callee := .builtin .append, args := #[s, x], argTypes := #[t, u] }) (vs vx v' : Value) (hs : a.eval s = vs) (hx : a.eval x = vx) (hrun : ∀ ty, (Builtin.append_ #[t, u] ty #[vs, vx]).run P w = .ok v' w')
    (h : K (a.put o.dst v') w') : if Region.wanted o (yielded ops a.tmps) = true then Oper.wp P o a w K Q else E := by
  have hw : Region.wanted o (yielded ops a.tmps) = true := by unfold Region.wanted; rw [hgd]
  rw [if_pos hw]
  unfold Oper.wp execOp
  simp only [ho, resolve, invoke, builtin, Sem.run_bind, Sem.run_pure, Result.andThen_ok, List.map_toArray, List.map_cons, List.map_nil, hs, hx, hrun]
  exact h
theorem own_onz {B s n : Nat} {e : TypeId} {w w' : World} {v : Value} {xs : List Value} (h : w.ownsRow B e s v n xs) (k : On w w') : w'.ownsRow B e s v n xs :=
  h.kept (row := none) ⟨k.2.os, k.2.tape, k.2.output, k.2.size, fun b hb _ => k.2.block b hb⟩ (by cases v.ownBlock <;> simp)
theorem info_slz : (Tryd.prog.info? 32).map (fun i => (i.zero, i.size, i.bytes)) = some (some (.slice none 0 0), 1, 24) := by kernel_rfl
/-- One more column. -/
theorem app_col {B : Nat} {w : World} {v : Value} {n : Nat} {xs : List Value} (hT : Tab w) (hown : w.ownsRow B 32 1 v n xs) (hB : B ≤ w.heap.size) (ua : Option Addr) (un uc : Nat) (hl : n ≤ 1000000) :
    ∃ v' w', (∀ ty, (Builtin.append_ #[22, 22] ty #[v, .slice (some ⟨w.heap.size, 0, none⟩) 1 1]).run Tryd.prog (w.alloc (.cells #[.slice ua un uc] 32)) = .ok v' w') ∧ w'.ownsRow B 32 1 v' (n + 1) (xs ++ [.slice ua un uc]) ∧
      (∀ W, On W w → W.heap.size ≤ B → On W w') ∧ ∀ x l, NR w x l → NR w' x l := by
  obtain ⟨i0, hi, hz0, hz1, hz2⟩ := info_parts info_slz
  have hb2 := vb_new w #[.slice ua un uc] 32
  obtain ⟨v', w', hrun, hown', hg, hloc⟩ := append_cells (P := Tryd.prog) (w.alloc (.cells #[.slice ua un uc] 32)) B 22 32 i0 (.slice none 0 0) 1 24 Tryd.underlying22 hi hz0 hz1 hz2 rfl (by omega) v n xs (hown.alloc _) (some ⟨w.heap.size, 0, none⟩) 1 1 [.slice ua un uc] rfl
    (fun _ => ⟨_, rfl, fun j u hj => by
      obtain rfl : j = 0 := by
        have := (List.getElem?_eq_some_iff.1 hj).1; simp at this; omega
      simp only [List.getElem?_cons_zero, Option.some.injEq] at hj
      subst hj
      exact hb2.2.1 0 _ rfl⟩) (by intro u hu; simp at hu; subst hu; rfl) (by unfold maxLen; omega) (by omega) (by simp; omega)
  refine ⟨v', w', hrun, hown', fun W hW hWB => (hW.alloc _).gbv hg (fun r hr => Nat.le_trans hWB (ownsRow_below hown r hr)), fun x l hx => (hx.on ((On.refl hT).alloc _)).gb hg (fun r hr cur fz hc => ?_)⟩
  rcases (hown.alloc (.cells #[.slice ua un uc] 32)).2 with ⟨e, _⟩ | ⟨g, cap, cur2, e, _, hb, _⟩
  · rw [e] at hr; simp [Value.ownBlock] at hr
  · rw [e] at hr
    simp only [Value.ownBlock, Option.some.injEq] at hr
    subst hr
    rw [hb] at hc
    simp at hc
theorem own_blk9 {w : World} {B n : Nat} {e : TypeId} {v : Value} {xs : List Value} (h : w.ownsRow B e 1 v n xs) (hn : 0 < n) : ∃ g cap, v = .slice (some ⟨g, 0, none⟩) n cap ∧ B ≤ g := by
  rcases h.2 with ⟨_, h0⟩ | ⟨g, cap, cur, e, hB, _⟩
  · omega
  · exact ⟨g, cap, e, hB⟩
/-- The first i columns, turned. -/
def CR (B sh : Nat) (cols : List (List Nat)) (w : World) (v : Value) (i : Nat) : Prop := ∃ us, w.ownsRow B 32 1 v i us ∧ ∀ j, j < i → ∃ u, us[j]? = some u ∧ NR w u (rotC sh (cols.getD j [])) ∧ FrB B u
/-- All that is new since the memory had B blocks stands. -/
def NewK (B : Nat) (w w' : World) : Prop := w.heap.size ≤ w'.heap.size ∧ ∀ b, B ≤ b → b < w.heap.size → w'.heap[b]? = w.heap[b]?
theorem NewK.refl (B : Nat) (w : World) : NewK B w w := ⟨Nat.le_refl _, fun _ _ _ => rfl⟩
theorem CR.on {B sh i : Nat} {cols : List (List Nat)} {w w' : World} {v : Value} (h : CR B sh cols w v i) (k : On w w') : CR B sh cols w' v i := by
  obtain ⟨us, h1, h2⟩ := h
  refine ⟨us, own_onz h1 k, fun j hj => ?_⟩
  obtain ⟨u, e, hn, hf⟩ := h2 j hj
  exact ⟨u, e, hn.on k, hf⟩
theorem CR.step {B sh i : Nat} {cols : List (List Nat)} {w w' : World} {v' u : Value} {us : List Value} (h2 : ∀ j, j < i → ∃ u, us[j]? = some u ∧ NR w u (rotC sh (cols.getD j [])) ∧ FrB B u) (hl : us.length = i) (hu : NR w u (rotC sh (cols.getD i []))) (hfu : FrB B u) (hown : w'.ownsRow B 32 1 v' (i + 1) (us ++ [u])) (hN : ∀ x l, NR w x l → NR w' x l) : CR B sh cols w' v' (i + 1) := by
  refine ⟨_, hown, fun j hj => ?_⟩
  by_cases h : j < i
  · obtain ⟨x, e, hn, hf⟩ := h2 j h
    exact ⟨x, by rw [List.getElem?_append_left (by omega)]; exact e, hN _ _ hn, hf⟩
  · obtain rfl : j = i := by omega
    exact ⟨u, by rw [List.getElem?_append_right (by omega), hl]; simp, hN _ _ hu, hfu⟩
theorem CR.col {B sh : Nat} {cols : List (List Nat)} {w W' : World} {v : Value} (h : CR B sh cols w v cols.length) (hm : cols.length ≤ 64) (hk : NewK B w W') : ColL W' v (cols.map (rotC sh)) := by
  obtain ⟨us, hown, h2⟩ := h
  have hown' : W'.ownsRow B 32 1 v cols.length us := by
    refine ⟨hown.1, ?_⟩
    rcases hown.2 with h | ⟨g, cap, cur, e, hB, hb, h9⟩
    · exact .inl h
    · exact .inr ⟨g, cap, cur, e, hB, by rw [hk.2 g hB (Array.getElem?_eq_some_iff.1 hb).1]; exact hb, h9⟩
  refine own_sld ([] : List Nat) _ hown' (by simp) (by omega) fun g i u hi hu hc => ?_
  obtain ⟨x, e, hn, hf⟩ := h2 i hi
  rw [hu] at e
  obtain rfl := Option.some.inj e
  refine ⟨u, hc, ?_⟩
  have e2 : (cols.map (rotC sh)).getD i [] = rotC sh (cols.getD i []) := by
    rw [List.getD_eq_getElem?_getD, List.getD_eq_getElem?_getD, List.getElem?_map, List.getElem?_eq_getElem hi]; rfl
  rw [e2]
  obtain ⟨hU, hL, h1 | ⟨b, off, cap, rfl, hcc⟩⟩ := hn.1
  · exact ⟨hU, hL, .inl h1⟩
  · refine ⟨hU, hL, .inr ⟨b, off, cap, rfl, fun q hq => ?_⟩⟩
    have hlt := cell_size (hcc q hq)
    exact (World.cell?_of_block (a := ⟨b, off + q, none⟩) (hk.2 b (hf b off _ cap rfl) hlt)).trans (hcc q hq)
set_option maxHeartbeats 2000000 in
set_option maxRecDepth 100000 in
theorem turned_any (cols : List (List Nat)) (v : Value) (sh n : Nat) (w : World) (hT : Tab w) (hV : ColL w v cols) (hn : ∀ j, j < cols.length → (cols.getD j []).length = n) (hn1 : 1 ≤ n ∧ n ≤ 8192) (hm : cols.length ≤ 64) (hsh : sh ≤ 255) :
    Calls Tryd.prog 28 #[v, .int .i64 (sh : Int)] w fun e w' => (∃ a c, e = .returned (.slice a cols.length c) ∧ ∀ W', NewK w.heap.size w' W' → ColL W' (.slice a cols.length c) (cols.map (rotC sh))) ∧ On w w' := by
  obtain ⟨a, cap, rfl⟩ := hV.shape
  have HC : Hid (∀ i, i < cols.length → ∃ b off b2 o2 cc, a = some ⟨b, off, none⟩ ∧ w.cell? ⟨b, off + i, none⟩ = some (.slice (some ⟨b2, o2, none⟩) n cc) ∧ ∀ q, q < n → w.cell? ⟨b2, o2 + q, none⟩ = some (.int .u64 (((cols.getD i []).getD q 0 : Nat) : Int)) ∧ (cols.getD i []).getD q 0 ≤ 18446744073709551615) := fun i hi => by
    obtain ⟨b, off, e, u, d0, d1⟩ := hV.cells i hi
    rw [Nat.mul_one] at d0
    have hl := hn i hi
    rcases d1.2.2 with ⟨e0, _⟩ | ⟨bb, oo, cap', e0, hc⟩
    · rw [e0] at hl; simp at hl; omega
    · rw [e0, hl] at d0
      exact ⟨b, off, bb, oo, cap', e, d0, fun q hq => ⟨hc q (by omega), d1.1 _ (getD_mem _ q (by omega))⟩⟩
  have HT9 : Hid (∀ i, i < cols.length → ∀ j, j < n → u64s ((rotC sh (cols.getD i [])).take (j + 1)) = u64s ((rotC sh (cols.getD i [])).take j) ++ [.int .u64 (((cols.getD i []).getD ((j + sh) % n) 0 : Nat) : Int)]) := fun i hi j hj => by
    have hl := hn i hi
    rw [take_snoc_m _ 0 j (by rw [rotC_len]; omega), rotC_get _ _ _ (by omega), hl]; simp [u64s]
  have HLN : Hid (∀ i, i < cols.length → (rotC sh (cols.getD i [])).take n = rotC sh (cols.getD i []) ∧ ∀ x ∈ rotC sh (cols.getD i []), x ≤ 18446744073709551615) := fun i hi => by
    have hl := hn i hi
    refine ⟨List.take_of_length_le (by rw [rotC_len]; omega), fun x hx => ?_⟩
    obtain ⟨j, hj, rfl⟩ := List.mem_map.1 hx
    have hj' := List.mem_range.1 hj
    obtain ⟨_, _, _, _, _, _, _, h⟩ := HC.out i hi
    exact (h _ (by rw [hl]; exact Nat.mod_lt _ (by omega))).2
  have HCL : Hid (∀ wq v, CR w.heap.size sh cols wq v cols.length → ∃ a c, v = .slice a cols.length c ∧ ∀ W', NewK w.heap.size wq W' → ColL W' (.slice a cols.length c) (cols.map (rotC sh))) := fun wq v h => by
    have h2 := h.col hm (NewK.refl _ _)
    obtain ⟨a, c, e⟩ := h2.shape
    rw [List.length_map] at e
    subst e
    exact ⟨a, c, rfl, fun W' hk => h.col hm hk⟩
  have H0 := Lib.hid (On.refl hT)
  obtain ⟨m, hml⟩ : ∃ m, m = cols.length := ⟨_, rfl⟩
  rw [← hml] at HC HT9 HLN HCL hm ⊢
  clear hT hV hn hml
  go_enter Tryd.func28, Tryd.ntmps28
  go_wp2_with fail
  go_loopw [5, 6] (fun vo vi wr => ∃ i : Nat, i ≤ m ∧ vi = .int .i64 (i : Int) ∧ Hid (CR w.heap.size sh cols wr vo i) ∧ Hid (On w wr)) (fun _ vi _ => m - (RowKit.intOf vi).toNat)
  case atStart => exact ⟨0, Nat.zero_le _, rfl, Lib.hid ⟨[], World.ownsRow_nil _ _ _ _, fun j hj => by omega⟩, H0⟩
  case round =>
    rename World => w1
    obtain ⟨i, hi, rfl, HR, HO1⟩ := hrel
    by_cases hlt : i < m
    · have hlt' : (i : Int) < (m : Int) := by omega
      obtain ⟨b, off, b2, o2, cc, rfl, d0, dq⟩ := HC.out i hlt
      have HTK := Lib.hid (HT9.out i hlt)
      have HD := Lib.hid d0; have HDQ := Lib.hid dq
      have HI0 := Lib.hid (On.refl HO1.out.tab)
      clear d0 dq
      go_wp2_with fail
      go_loopw [7, 8] (fun vo vi wr => ∃ j : Nat, j ≤ n ∧ vi = .int .i64 (j : Int) ∧ Hid (wr.ownsRow w1.heap.size 53 1 vo j (u64s ((rotC sh (cols.getD i [])).take j))) ∧ Hid (On w1 wr)) (fun _ vi _ => n - (RowKit.intOf vi).toNat)
      case atStart => exact ⟨0, Nat.zero_le _, rfl, Lib.hid (World.ownsRow_nil _ _ _ _), HI0⟩
      case round =>
        rename World => wr
        obtain ⟨j, hj, rfl, HV, HO⟩ := hrel
        have HD0 := Lib.hid (cell_on (HO1.out.trans HO.out) HD.out); have HE0 := Lib.hid (cell_on HO1.out HD.out)
        by_cases hjl : j < n
        · have hjl' : (j : Int) < (n : Int) := by omega
          obtain ⟨q, hq⟩ : ∃ q, q = (j + sh) % n := ⟨_, rfl⟩
          have hqn : q < n := hq ▸ Nat.mod_lt _ (by omega)
          have HQI : Hid (((j : Int) + (sh : Int)) % (n : Int) = (q : Int)) := by unfold Hid; rw [hq, Int.natCast_emod, Int.natCast_add]
          have HTJ := Lib.hid (HTK.out j hjl)
          rw [← hq] at HTJ
          have HE1 := Lib.hid (cell_on HO1.out (HDQ.out q hqn).1)
          clear hq
          generalize (cols.getD i []).getD q 0 = x at *
          have hn0 : ¬ n = 0 := by omega
          have c0 := HD0.out
          go_upto_region 9 with fail
          clear c0
          obtain ⟨V0, hV0⟩ : ∃ V0, V0 = wr.drew := ⟨_, rfl⟩
          have hS0 : On w1 V0 := by rw [hV0]; exact HO.out.drew
          refine region_head_tail (S := fun wx => On w1 wx) 18 (by kernel_rfl) (by kernel_rfl) ?_
          rw [← hV0]
          have hVD := own_onz HV.out (On.refl HO.out.tab).drew
          rw [← hV0] at hVD
          clear hV0
          obtain ⟨v', w', hrun, hown', hOn⟩ := app_u64 hVD hS0.size (x : Int) (by omega)
          rw [← HTJ.out] at hown'
          have HV2 := Lib.hid hown'
          have hO1w := hOn w1 hS0 (Nat.le_refl _)
          have HO2 := Lib.hid hO1w
          have HRUN := Lib.hid hrun
          refine HeadG.take (i := 0) (v := ?kv0) rfl (by kernel_rfl) (by kernel_rfl) (by kernel_rfl) (by kernel_rfl) (by kernel_rfl) (by kernel_rfl) (by kernel_rfl) (fun _ _ _ h => h) (Or.inl ⟨by rfl, ?ky0⟩) hS0 ?kr0
          case ky0 => (intro wq hwq; go_simp; try with_reducible rfl)
          try simp only [Act.put, List.setIfInBounds_toArray, List.set_cons_zero, List.set_cons_succ, List.getElem_toArray, List.getElem_cons_zero, List.getElem_cons_succ]
          refine HeadG.take (i := 1) (v := ?kv1) rfl (by kernel_rfl) (by kernel_rfl) (by kernel_rfl) (by kernel_rfl) (by kernel_rfl) (by kernel_rfl) (by kernel_rfl) (fun _ _ _ h => h) (Or.inl ⟨by rfl, ?ky1⟩) hS0 ?kr1
          case ky1 => (intro wq hwq; go_simp; try with_reducible rfl)
          try simp only [Act.put, List.setIfInBounds_toArray, List.set_cons_zero, List.set_cons_succ, List.getElem_toArray, List.getElem_cons_zero, List.getElem_cons_succ]
          refine HeadG.take (i := 2) (v := ?kv2) rfl (by kernel_rfl) (by kernel_rfl) (by kernel_rfl) (by kernel_rfl) (by kernel_rfl) (by kernel_rfl) (by kernel_rfl) (fun _ _ _ h => h) (Or.inl ⟨by rfl, ?ky2⟩) hS0 ?kr2
          case ky2 => (intro wq hwq; go_simp; try with_reducible rfl)
          try simp only [Act.put, List.setIfInBounds_toArray, List.set_cons_zero, List.set_cons_succ, List.getElem_toArray, List.getElem_cons_zero, List.getElem_cons_succ]
          refine HeadG.take (i := 3) (v := ?kv3) rfl (by kernel_rfl) (by kernel_rfl) (by kernel_rfl) (by kernel_rfl) (by kernel_rfl) (by kernel_rfl) (by kernel_rfl) (fun _ _ _ h => h) (Or.inl ⟨by rfl, ?ky3⟩) hS0 ?kr3
          case ky3 => (intro wq hwq; go_simp; try with_reducible rfl)
          try simp only [Act.put, List.setIfInBounds_toArray, List.set_cons_zero, List.set_cons_succ, List.getElem_toArray, List.getElem_cons_zero, List.getElem_cons_succ]
          refine HeadG.take (i := 4) (v := .slice (some ⟨b2, o2, none⟩) n cc) rfl (by kernel_rfl) (by kernel_rfl) (by kernel_rfl) (by kernel_rfl) (by kernel_rfl) (by kernel_rfl) (by kernel_rfl) (fun _ _ _ h => h) (Or.inl ⟨by rfl, ?ky4⟩) hS0 ?kr4
          case ky4 => (intro wq hwq; have d0 := cell_on hwq HE0.out; go_simp; try with_reducible rfl)
          try simp only [Act.put, List.setIfInBounds_toArray, List.set_cons_zero, List.set_cons_succ, List.getElem_toArray, List.getElem_cons_zero, List.getElem_cons_succ]
          refine HeadG.take (i := 5) (v := ?kv5) rfl (by kernel_rfl) (by kernel_rfl) (by kernel_rfl) (by kernel_rfl) (by kernel_rfl) (by kernel_rfl) (by kernel_rfl) (fun _ _ _ h => h) (Or.inl ⟨by rfl, ?ky5⟩) hS0 ?kr5
          case ky5 => (intro wq hwq; go_simp; try with_reducible rfl)
          try simp only [Act.put, List.setIfInBounds_toArray, List.set_cons_zero, List.set_cons_succ, List.getElem_toArray, List.getElem_cons_zero, List.getElem_cons_succ]
          refine HeadG.take (i := 6) (v := ?kv6) rfl (by kernel_rfl) (by kernel_rfl) (by kernel_rfl) (by kernel_rfl) (by kernel_rfl) (by kernel_rfl) (by kernel_rfl) (fun _ _ _ h => h) (Or.inl ⟨by rfl, ?ky6⟩) hS0 ?kr6
          case ky6 => (intro wq hwq; go_simp; try with_reducible rfl)
          try simp only [Act.put, List.setIfInBounds_toArray, List.set_cons_zero, List.set_cons_succ, List.getElem_toArray, List.getElem_cons_zero, List.getElem_cons_succ]
          refine HeadG.take (i := 7) (v := .int .i64 ((j : Int) + (sh : Int))) rfl (by kernel_rfl) (by kernel_rfl) (by kernel_rfl) (by kernel_rfl) (by kernel_rfl) (by kernel_rfl) (by kernel_rfl) (fun _ _ _ h => h) (Or.inl ⟨by rfl, ?ky7⟩) hS0 ?kr7
          case ky7 => (intro wq hwq; go_simp; first | with_reducible rfl | exact IntWalk.i64_in _ (by omega) | (rw [IntKind.wrap_i64]; omega))
          try simp only [Act.put, List.setIfInBounds_toArray, List.set_cons_zero, List.set_cons_succ, List.getElem_toArray, List.getElem_cons_zero, List.getElem_cons_succ]
          refine HeadG.take (i := 8) (v := ?kv8) rfl (by kernel_rfl) (by kernel_rfl) (by kernel_rfl) (by kernel_rfl) (by kernel_rfl) (by kernel_rfl) (by kernel_rfl) (fun _ _ _ h => h) (Or.inl ⟨by rfl, ?ky8⟩) hS0 ?kr8
          case ky8 => (intro wq hwq; go_simp; try with_reducible rfl)
          try simp only [Act.put, List.setIfInBounds_toArray, List.set_cons_zero, List.set_cons_succ, List.getElem_toArray, List.getElem_cons_zero, List.getElem_cons_succ]
          refine HeadG.take (i := 9) (v := ?kv9) rfl (by kernel_rfl) (by kernel_rfl) (by kernel_rfl) (by kernel_rfl) (by kernel_rfl) (by kernel_rfl) (by kernel_rfl) (fun _ _ _ h => h) (Or.inl ⟨by rfl, ?ky9⟩) hS0 ?kr9
          case ky9 => (intro wq hwq; go_simp; try with_reducible rfl)
          try simp only [Act.put, List.setIfInBounds_toArray, List.set_cons_zero, List.set_cons_succ, List.getElem_toArray, List.getElem_cons_zero, List.getElem_cons_succ]
          refine HeadG.take (i := 10) (v := ?kv10) rfl (by kernel_rfl) (by kernel_rfl) (by kernel_rfl) (by kernel_rfl) (by kernel_rfl) (by kernel_rfl) (by kernel_rfl) (fun _ _ _ h => h) (Or.inl ⟨by rfl, ?ky10⟩) hS0 ?kr10
          case ky10 => (intro wq hwq; go_simp; try with_reducible rfl)
          try simp only [Act.put, List.setIfInBounds_toArray, List.set_cons_zero, List.set_cons_succ, List.getElem_toArray, List.getElem_cons_zero, List.getElem_cons_succ]
          refine HeadG.take (i := 11) (v := .slice (some ⟨b2, o2, none⟩) n cc) rfl (by kernel_rfl) (by kernel_rfl) (by kernel_rfl) (by kernel_rfl) (by kernel_rfl) (by kernel_rfl) (by kernel_rfl) (fun _ _ _ h => h) (Or.inl ⟨by rfl, ?ky11⟩) hS0 ?kr11
          case ky11 => (intro wq hwq; have d0 := cell_on hwq HE0.out; go_simp; try with_reducible rfl)
          try simp only [Act.put, List.setIfInBounds_toArray, List.set_cons_zero, List.set_cons_succ, List.getElem_toArray, List.getElem_cons_zero, List.getElem_cons_succ]
          refine HeadG.take (i := 12) (v := .int .i64 (n : Int)) rfl (by kernel_rfl) (by kernel_rfl) (by kernel_rfl) (by kernel_rfl) (by kernel_rfl) (by kernel_rfl) (by kernel_rfl) (fun _ _ _ h => h) (Or.inl ⟨by rfl, ?ky12⟩) hS0 ?kr12
          case ky12 => (intro wq hwq; go_simp; try with_reducible rfl)
          try simp only [Act.put, List.setIfInBounds_toArray, List.set_cons_zero, List.set_cons_succ, List.getElem_toArray, List.getElem_cons_zero, List.getElem_cons_succ]
          refine HeadG.take (i := 13) (v := .int .i64 (q : Int)) rfl (by kernel_rfl) (by kernel_rfl) (by kernel_rfl) (by kernel_rfl) (by kernel_rfl) (by kernel_rfl) (by kernel_rfl) (fun _ _ _ h => h) (Or.inl ⟨by rfl, ?ky13⟩) hS0 ?kr13
          case ky13 => (intro wq hwq; go_simp; rw [Int.tmod_eq_emod_of_nonneg (by omega)]; exact HQI.out)
          try simp only [Act.put, List.setIfInBounds_toArray, List.set_cons_zero, List.set_cons_succ, List.getElem_toArray, List.getElem_cons_zero, List.getElem_cons_succ]
          refine HeadG.take (i := 14) (v := .pointer (some ⟨b2, o2 + q, none⟩)) rfl (by kernel_rfl) (by kernel_rfl) (by kernel_rfl) (by kernel_rfl) (by kernel_rfl) (by kernel_rfl) (by kernel_rfl) (fun _ _ _ h => h) (Or.inl ⟨by rfl, ?ky14⟩) hS0 ?kr14
          case ky14 => (intro wq hwq; go_simp; try with_reducible rfl)
          try simp only [Act.put, List.setIfInBounds_toArray, List.set_cons_zero, List.set_cons_succ, List.getElem_toArray, List.getElem_cons_zero, List.getElem_cons_succ]
          refine HeadG.take (i := 15) (v := .int .u64 (x : Int)) rfl (by kernel_rfl) (by kernel_rfl) (by kernel_rfl) (by kernel_rfl) (by kernel_rfl) (by kernel_rfl) (by kernel_rfl) (fun _ _ _ h => h) (Or.inl ⟨by rfl, ?ky15⟩) hS0 ?kr15
          case ky15 => (intro wq hwq; have d1 := cell_on hwq HE1.out; go_simp; try with_reducible rfl)
          try simp only [Act.put, List.setIfInBounds_toArray, List.set_cons_zero, List.set_cons_succ, List.getElem_toArray, List.getElem_cons_zero, List.getElem_cons_succ]
          refine HeadG.one (i := 16) rfl (by kernel_rfl) (by kernel_rfl) (fun K9 hK9 => ?_)
          go_simp
          refine hK9.out _ _ (hS0.alloc _) ?_
          clear hK9 K9
          try simp only [Act.put, List.setIfInBounds_toArray, List.set_cons_zero, List.set_cons_succ, List.getElem_toArray, List.getElem_cons_zero, List.getElem_cons_succ]
          refine HeadG.one (i := 17) rfl (by kernel_rfl) (by kernel_rfl) (fun K9 hK9 => ?_)
          refine step_appendZ rfl (.tmp 24) (.tmp 40) _ _ rfl _ _ v' rfl rfl HRUN.out ?_
          refine hK9.out _ _ HO2.out ?_
          clear hK9 K9
          try simp only [Act.put, List.setIfInBounds_toArray, List.set_cons_zero, List.set_cons_succ, List.getElem_toArray, List.getElem_cons_zero, List.getElem_cons_succ]
          refine HeadG.last (i := 18) rfl (by kernel_rfl) (by kernel_rfl) (by kernel_rfl) (fun K9 hK9 => ?_)
          go_simp
          refine hK9.out _ _ ?_
          clear hK9 K9
          try simp only [Act.put, List.setIfInBounds_toArray, List.set_cons_zero, List.set_cons_succ, List.getElem_toArray, List.getElem_cons_zero, List.getElem_cons_succ]
          clear hown' hrun hO1w hS0 hVD hOn
          try go_wp2
          go_roundw
          case rel => exact ⟨j + 1, by omega, by simp, HV2, HO2⟩
          case measure => simp [RowKit.intOf]; omega
        · obtain rfl : n = j := by omega
          have hown := HV.out
          rw [(HLN.out i hlt).1] at hown
          have hNR := own_nr hown (HLN.out i hlt).2 (by omega)
          obtain ⟨ga, cg, eg, _⟩ := own_blk9 hown (by omega)
          have hfr : FrB w.heap.size _ := fun b o m9 c9 e9 => Nat.le_trans HO1.out.size (own_frb hown b o m9 c9 e9)
          subst eg
          have hR2 := HR.out.on HO.out
          obtain ⟨us, ho1, h2⟩ := hR2
          have hon := HO1.out.trans HO.out
          obtain ⟨v', w', hrun, hown', hOn, hN⟩ := app_col hon.tab ho1 hon.size (some ⟨ga, 0, none⟩) n cg (by omega)
          have HR2 := Lib.hid (CR.step h2 (by have := ho1.1; simpa using this) hNR hfr hown' hN)
          have HO2 := Lib.hid (hOn w hon (Nat.le_refl _))
          have HRUN := Lib.hid hrun
          have c0 := HD0.out
          clear hfr hown hNR ho1 h2 hon hown' hOn hN hrun HV HTK HD HDQ HI0 HD0
          go_wp2_with (at_builtin; refine wp_appendJ rfl (.tmp 42) (.tmp 44) _ _ rfl _ _ v' rfl rfl HRUN.out ?_)
          go_roundw
          case rel => exact ⟨i + 1, by omega, by simp, HR2, HO2⟩
          case measure => simp [RowKit.intOf]; omega
    · obtain rfl : m = i := by omega
      obtain ⟨a9, c9, e9, hc9⟩ := HCL.out _ _ HR.out
      subst e9
      go_wp2
      go_ret
      exact ⟨⟨_, _, rfl, hc9⟩, HO1.out⟩
end Go.Proofs.YtbgljelpldnldaaDoor

/- SystemTurns: a grown row of rules. -/
namespace Go.Proofs.YtbgljelpldnldaaDoor
open Go.RowKit Go.Lib
set_option linter.unusedVariables false

theorem info_ruz : (Tryd.prog.info? 48).map (fun i => (i.zero, i.size, i.bytes)) = some (some (.agg #[.int .u8 0, .slice none 0 0]), 2, 32) := by kernel_rfl
/-- One more rule. -/
theorem app_rule {B : Nat} {w : World} {v : Value} {n : Nat} {xs : List Value} (hown : w.ownsRow B 48 2 v n xs) (hB : B ≤ w.heap.size) (ua : Option Addr) (un uc : Nat) (hl : n ≤ 1000000) :
    ∃ v' w', (∀ ty, (Builtin.append_ #[23, 23] ty #[v, .slice (some ⟨w.heap.size, 0, none⟩) 1 1]).run Tryd.prog (w.alloc (.cells #[.int .u8 1, .slice ua un uc] 48)) = .ok v' w') ∧ w'.ownsRow B 48 2 v' (n + 1) (xs ++ [.int .u8 1, .slice ua un uc]) ∧
      ∀ W, On W w → W.heap.size ≤ B → On W w' := by
  obtain ⟨i0, hi, hz0, hz1, hz2⟩ := info_parts info_ruz
  have hb2 := vb_new w #[.int .u8 1, .slice ua un uc] 48
  obtain ⟨v', w', hrun, hown', hg, hloc⟩ := append_cells (P := Tryd.prog) (w.alloc (.cells #[.int .u8 1, .slice ua un uc] 48)) B 23 48 i0 (.agg #[.int .u8 0, .slice none 0 0]) 2 32 Tryd.underlying23 hi hz0 hz1 hz2 rfl (by omega) v n xs (hown.alloc _) (some ⟨w.heap.size, 0, none⟩) 1 1 [.int .u8 1, .slice ua un uc] rfl
    (fun _ => ⟨_, rfl, fun j u hj => by
      have e1 : (⟨w.heap.size, 0, none⟩ : Addr).add j = ⟨w.heap.size, j, none⟩ := by unfold Addr.add; split <;> simp_all
      rw [e1]
      exact hb2.2.1 j u hj⟩) (by intro u hu; simp at hu; rcases hu with rfl | rfl <;> rfl) (by unfold maxLen; omega) (by omega) (by simp; omega)
  exact ⟨v', w', hrun, hown', fun W hW hWB => (hW.alloc _).gbv hg (fun r hr => Nat.le_trans hWB (ownsRow_below hown r hr))⟩
/-- The first i rules, asked in all rows. -/
def RRz (W0 : World) (L : List Ru) (w : World) (B : Nat) (v : Value) (i : Nat) : Prop := ∃ us, w.ownsRow B 48 2 v i us ∧ ∀ j, j < i → us[j * 2]? = some (.int .u8 1) ∧ ∃ u, us[j * 2 + 1]? = some u ∧ MRw W0 u (L.getD j zRu).2
theorem RRz.nil (W0 : World) (L : List Ru) (w : World) (B : Nat) : RRz W0 L w B (.slice none 0 0) 0 := ⟨[], World.ownsRow_nil _ _ _ _, fun j hj => by omega⟩
theorem RRz.step {W0 : World} {L : List Ru} {w' : World} {B i : Nat} {v' u : Value} {us : List Value} (h2 : ∀ j, j < i → us[j * 2]? = some (.int .u8 1) ∧ ∃ u, us[j * 2 + 1]? = some u ∧ MRw W0 u (L.getD j zRu).2) (hl : us.length = i * 2) (hu : MRw W0 u (L.getD i zRu).2)
    (hown : w'.ownsRow B 48 2 v' (i + 1) (us ++ [.int .u8 1, u])) : RRz W0 L w' B v' (i + 1) := by
  refine ⟨_, hown, fun j hj => ?_⟩
  by_cases h : j < i
  · obtain ⟨x0, x, e, hm⟩ := h2 j h
    exact ⟨by rw [List.getElem?_append_left (by omega)]; exact x0, x, by rw [List.getElem?_append_left (by omega)]; exact e, hm⟩
  · obtain rfl : j = i := by omega
    refine ⟨by rw [List.getElem?_append_right (by omega), hl]; simp, u, by rw [List.getElem?_append_right (by omega), hl, show j * 2 + 1 - j * 2 = 1 by omega]; rfl, hu⟩
theorem RRz.row {W0 : World} {L : List Ru} {w : World} {B : Nat} {v : Value} (h : RRz W0 L w B v L.length) (hm : L.length ≤ 64) (hO : On W0 w) : RuL w v (allR L) := by
  obtain ⟨us, hown, h2⟩ := h
  have hal : (allR L).length = L.length := by simp [allR]
  have hown0 := hown
  rcases hown0.2 with ⟨rfl, h0⟩ | ⟨g, cap, cur, rfl, hb, hg, h1, h3, h4, h5⟩
  · exact ⟨by omega, .inl ⟨List.eq_nil_of_length_eq_zero (by omega), none, 0, rfl⟩⟩
  · refine ⟨by omega, .inr ⟨g, 0, cap, by rw [hal], fun i hi => ?_⟩⟩
    rw [hal] at hi
    obtain ⟨x0, u, e, hu⟩ := h2 i hi
    have c0 := hown.cells (g := g) rfl (i * 2) _ x0
    have c1 := hown.cells (g := g) rfl (i * 2 + 1) _ e
    have ea : ∀ j, (⟨g, 0, none⟩ : Addr).add j = ⟨g, j, none⟩ := fun j => by unfold Addr.add; split <;> simp_all
    rw [ea] at c0 c1
    have e2 : (allR L).getD i zRu = (1, (L.getD i zRu).2) := by
      unfold allR
      rw [List.getD_eq_getElem?_getD, List.getD_eq_getElem?_getD, List.getElem?_map, List.getElem?_eq_getElem hi]; rfl
    rw [e2, Nat.zero_add]
    exact ⟨⟨c0, by omega, by omega⟩, u, c1, hu.on hO⟩
end Go.Proofs.YtbgljelpldnldaaDoor

/- SystemTurns: the boxes behind the stores. -/
namespace Go.Proofs.YtbgljelpldnldaaDoor
open Go.RowKit Go.Lib
set_option linter.unusedVariables false

theorem RRz.on {W0 : World} {L : List Ru} {w w' : World} {B i : Nat} {v : Value} (h : RRz W0 L w B v i) (k : On w w') : RRz W0 L w' B v i := by
  obtain ⟨us, ho, h2⟩ := h; exact ⟨us, own_onz ho k, h2⟩
theorem RRz.ap {W0 : World} {L : List Ru} {w w' : World} {B i X : Nat} {v : Value} (h : RRz W0 L w B v i) (k : Ap X w w') (hX : X < B) : RRz W0 L w' B v i := by
  obtain ⟨us, ho, h2⟩ := h
  refine ⟨us, ho.kept k ?_, h2⟩
  cases hb : v.ownBlock with
  | none => exact .inl rfl
  | some g => exact .inr (fun e => by have := (ho.lt g hb).1; simp at e; omega)
/-- Behind the store of the new rules. -/
theorem tn_g1 (S : Sy) (a1 a2 a3 a4 : Option Addr) (k1 k2 k3 k4 : Nat) (tl : List Value) (ra : Option Addr) (rc m B Q : Nat) (w wr : World) (hw : On w wr) (hQ : w.heap.size ≤ Q) (hBQ : Q + 1 < B) (hB0 : VB Q wr (syL S ⟨a1, a2, a3, a4, k1, k2, k3, k4⟩)) (hB1 : VB (Q + 1) wr tl)
    (hV : RRz w S.rules wr B (.slice ra m rc) m) (hm : m = S.rules.length) (h64 : m ≤ 64) (hR : SyR w ⟨a1, a2, a3, a4, k1, k2, k3, k4⟩ S) :
    On w (wr.setCell ⟨Q, 5, none⟩ (.slice ra m rc)) ∧ SyR (wr.setCell ⟨Q, 5, none⟩ (.slice ra m rc)) ⟨a1, ra, a3, a4, k1, rc, k3, k4⟩ S.all1 ∧ VB Q (wr.setCell ⟨Q, 5, none⟩ (.slice ra m rc)) (syL S.all1 ⟨a1, ra, a3, a4, k1, rc, k3, k4⟩) ∧ VB (Q + 1) (wr.setCell ⟨Q, 5, none⟩ (.slice ra m rc)) tl := by
  subst hm
  have hap : Ap Q wr (wr.setCell ⟨Q, 5, none⟩ (.slice ra S.rules.length rc)) := (Ap.refl _ _).setCell _ _
  have hG : On w (wr.setCell ⟨Q, 5, none⟩ (.slice ra S.rules.length rc)) := hw.gbv hap (fun r hr => by cases hr; exact hQ)
  refine ⟨hG, ?_, ?_, hB1.other ⟨Q, 5, none⟩ (by simp) _⟩
  · obtain ⟨n4, c, r, p, l⟩ := hR.on hG
    have hrow : RuL (wr.setCell ⟨Q, 5, none⟩ (.slice ra S.rules.length rc)) (.slice ra S.rules.length rc) (allR S.rules) := by
      obtain ⟨us, ho, h2⟩ := hV
      refine RRz.row ⟨us, ho.kept hap ?_, h2⟩ h64 hG
      cases hb : (Value.slice ra S.rules.length rc).ownBlock with
      | none => exact .inl rfl
      | some g => exact .inr (fun e => by have := (ho.lt g hb).1; simp at e; omega)
    refine ⟨n4, c, ?_, p, l⟩
    show RuL _ (.slice ra S.all1.rules.length rc) S.all1.rules
    rw [all1_len]; exact hrow
  · have h := hB0.set 5 (.slice ra S.rules.length rc) (by simp)
    have e : S.all1.rules.length = S.rules.length := all1_len S
    show VB Q _ [.int .i64 S.f, .int .i64 S.rows, .int .i64 S.main, .int .i64 S.pub, .slice a1 S.fixed.length k1, .slice ra S.all1.rules.length rc, .slice a3 S.perms.length k3, .slice a4 S.looks.length k4]
    rw [e]; exact h
/-- Behind the store of the turned fixed columns; and of the main ones. -/
theorem tn_g2 (S : Sy) (a1 a2 a3 a4 : Option Addr) (k1 k2 k3 k4 : Nat) (tl : List Value) (fa : Option Addr) (fc Q sh : Nat) (w G w6 : World) (hw : On w G) (hQ : w.heap.size ≤ Q) (hG6 : On G w6) (hB0 : VB Q G (syL S ⟨a1, a2, a3, a4, k1, k2, k3, k4⟩)) (hB1 : VB (Q + 1) G tl)
    (hC : ∀ W', NewK G.heap.size w6 W' → ColL W' (.slice fa S.fixed.length fc) (S.fixed.map (rotC sh))) :
    On w (w6.setCell ⟨Q, 4, none⟩ (.slice fa S.fixed.length fc)) ∧ VB Q (w6.setCell ⟨Q, 4, none⟩ (.slice fa S.fixed.length fc)) (syL (S.rot sh) ⟨fa, a2, a3, a4, fc, k2, k3, k4⟩) ∧ VB (Q + 1) (w6.setCell ⟨Q, 4, none⟩ (.slice fa S.fixed.length fc)) tl ∧
      NewK G.heap.size w6 (w6.setCell ⟨Q, 4, none⟩ (.slice fa S.fixed.length fc)) := by
  have hap : Ap Q w6 (w6.setCell ⟨Q, 4, none⟩ (.slice fa S.fixed.length fc)) := (Ap.refl _ _).setCell _ _
  have hlt := hB0.1
  refine ⟨(hw.trans hG6).gbv hap (fun r hr => by cases hr; exact hQ), ?_, (hB1.on hG6).other ⟨Q, 4, none⟩ (by simp) _, hap.size, fun b h1 h2 => hap.block b h2 (by simp; omega)⟩
  have h := (hB0.on hG6).set 4 (.slice fa S.fixed.length fc) (by simp)
  have e : (S.rot sh).fixed.length = S.fixed.length := by simp [Sy.rot]
  show VB Q _ [.int .i64 S.f, .int .i64 S.rows, .int .i64 S.main, .int .i64 S.pub, .slice fa (S.rot sh).fixed.length fc, .slice a2 S.rules.length k2, .slice a3 S.perms.length k3, .slice a4 S.looks.length k4]
  rw [e]; exact h
/-- Behind all stores. -/
theorem tn_g3 (S : Sy) (T : Tr) (a1 a2 a3 a4 : Option Addr) (k1 k2 k3 k4 : Nat) (pa ma : Option Addr) (pc mc : Nat) (L : List Ru) (ra fa na : Option Addr) (rc fc nc B Q sh : Nat) (w G w5 w6 w7 : World) (hL : S.rules = allR L) (hLl : L.length ≤ 64) (hR : SyR w ⟨a1, a2, a3, a4, k1, k2, k3, k4⟩ ⟨S.f, S.rows, S.main, S.pub, S.fixed, L, S.perms, S.looks⟩) (hTr : TrR w pa ma pc mc T)
    (hw5 : On w w5) (hQ : w.heap.size ≤ Q) (hBQ : Q + 1 < B) (hO6 : On w5 w6) (hB0 : VB Q w5 (syL S ⟨a1, ra, a3, a4, k1, rc, k3, k4⟩)) (hB1 : VB (Q + 1) w5 [.slice pa T.pub.length pc, .slice ma T.main.length mc])
    (hV : RRz w L w5 B (.slice ra L.length rc) L.length)
    (hC : ∀ W', NewK w5.heap.size w6 W' → ColL W' (.slice fa S.fixed.length fc) (S.fixed.map (rotC sh))) (hO7 : On (w6.setCell ⟨Q, 4, none⟩ (.slice fa S.fixed.length fc)) w7)
    (hM : ∀ W', NewK (w6.setCell ⟨Q, 4, none⟩ (.slice fa S.fixed.length fc)).heap.size w7 W' → ColL W' (.slice na T.main.length nc) (T.main.map (rotC sh))) :
    On w (w7.setCell ⟨Q + 1, 1, none⟩ (.slice na T.main.length nc)) ∧ SyR (w7.setCell ⟨Q + 1, 1, none⟩ (.slice na T.main.length nc)) ⟨fa, ra, a3, a4, fc, rc, k3, k4⟩ (S.rot sh) ∧ TrR (w7.setCell ⟨Q + 1, 1, none⟩ (.slice na T.main.length nc)) pa na pc nc (T.rot sh) ∧
      VB Q (w7.setCell ⟨Q + 1, 1, none⟩ (.slice na T.main.length nc)) (syL (S.rot sh) ⟨fa, ra, a3, a4, fc, rc, k3, k4⟩) ∧ VB (Q + 1) (w7.setCell ⟨Q + 1, 1, none⟩ (.slice na T.main.length nc)) [.slice pa T.pub.length pc, .slice na T.main.length nc] := by
  obtain ⟨hG2, hQ2, hT2, hN2⟩ := tn_g2 S a1 ra a3 a4 k1 rc k3 k4 _ fa fc Q sh w w5 w6 hw5 hQ hO6 hB0 hB1 hC
  have ap1 : Ap Q w6 (w6.setCell ⟨Q, 4, none⟩ (.slice fa S.fixed.length fc)) := (Ap.refl _ _).setCell _ _
  generalize w6.setCell ⟨Q, 4, none⟩ (.slice fa S.fixed.length fc) = G2 at *
  have ap2 : Ap (Q + 1) w7 (w7.setCell ⟨Q + 1, 1, none⟩ (.slice na T.main.length nc)) := (Ap.refl _ _).setCell _ _
  have q2 := hT2.1
  have q1 := hB1.1
  have hG3 : On w (w7.setCell ⟨Q + 1, 1, none⟩ (.slice na T.main.length nc)) := (hG2.trans hO7).gbv ap2 (fun r hr => by cases hr; omega)
  have hVB : VB (Q + 1) (w7.setCell ⟨Q + 1, 1, none⟩ (.slice na T.main.length nc)) [.slice pa T.pub.length pc, .slice na T.main.length nc] := (hT2.on hO7).set 1 (.slice na T.main.length nc) (by simp)
  have hVQ := (hQ2.on hO7).other ⟨Q + 1, 1, none⟩ (by simp) (.slice na T.main.length nc)
  have hcm := hM (w7.setCell ⟨Q + 1, 1, none⟩ (.slice na T.main.length nc)) ⟨ap2.size, fun b h1 h2 => ap2.block b h2 (by simp; omega)⟩
  have hcf := hC (w7.setCell ⟨Q + 1, 1, none⟩ (.slice na T.main.length nc)) ⟨Nat.le_trans ap1.size (Nat.le_trans hO7.size ap2.size), fun b h1 h2 => by
    have z := ap1.size
    have z7 := hO7.size
    exact (ap2.block b (by omega) (by simp; omega)).trans ((hO7.2.block b (by omega)).trans (hN2.2 b h1 h2))⟩
  have hrow := RRz.row ((((hV.on hO6).ap ap1 (by omega)).on hO7).ap ap2 hBQ) hLl hG3
  generalize w7.setCell ⟨Q + 1, 1, none⟩ (.slice na T.main.length nc) = G3 at *
  obtain ⟨n4, c, r, p, l⟩ := hR.on hG3
  obtain ⟨tp, tm⟩ := hTr.on hG3
  have e1 : (S.rot sh).fixed.length = S.fixed.length := by simp [Sy.rot]
  have e2 : (T.rot sh).main.length = T.main.length := by simp [Tr.rot]
  refine ⟨hG3, ⟨n4, ?_, ?_, p, l⟩, ⟨tp, ?_⟩, hVQ, hVB⟩
  · show ColL _ (.slice fa (S.rot sh).fixed.length fc) _
    rw [e1]; exact hcf
  · show RuL _ (.slice ra S.rules.length rc) S.rules
    rw [hL, show (allR L).length = L.length by simp [allR]]; exact hrow
  · show ColL _ (.slice na (T.rot sh).main.length nc) _
    rw [e2]; exact hcm
end Go.Proofs.YtbgljelpldnldaaDoor

/- SystemTurns: the walk. -/
namespace Go.Proofs.YtbgljelpldnldaaDoor
open Go.RowKit Go.Lib
set_option linter.unusedVariables false

theorem getD_mem_g {α : Type} (l : List α) (z : α) (k : Nat) (h : k < l.length) : l.getD k z ∈ l := by
  rw [List.getD_eq_getElem?_getD, List.getElem?_eq_getElem h]; exact List.getElem_mem _
theorem own_shapez {B s n : Nat} {e : TypeId} {w : World} {v : Value} {xs : List Value} (h : w.ownsRow B e s v n xs) : ∃ a c, v = .slice a n c := by
  rcases h.2 with ⟨rfl, rfl⟩ | ⟨g, cap, cur, rfl, _⟩
  · exact ⟨_, _, rfl⟩
  · exact ⟨_, _, rfl⟩
set_option maxHeartbeats 4000000 in
set_option maxRecDepth 100000 in
theorem sturns_any (S : Sy) (a1 a2 a3 a4 : Option Addr) (k1 k2 k3 k4 : Nat) (T : Tr) (pa ma : Option Addr) (pc mc : Nat) (sh : Nat) (w : World) (hT : Tab w) (hPw : Pwz w) (hR : SyR w ⟨a1, a2, a3, a4, k1, k2, k3, k4⟩ S) (hTr : TrR w pa ma pc mc T) (hsh : sh ≤ 255) :
    Calls Tryd.prog 5 #[syA S ⟨a1, a2, a3, a4, k1, k2, k3, k4⟩, .agg #[.slice pa T.pub.length pc, .slice ma T.main.length mc], .int .u8 (sh : Int)] w fun e w' => e = .returned (.bool true) ∧ On w w' := by
  obtain ⟨W0, hW0⟩ : ∃ W0, W0 = (w.alloc (syO S ⟨a1, a2, a3, a4, k1, k2, k3, k4⟩)).alloc (.cells #[.slice pa T.pub.length pc, .slice ma T.main.length mc] 35) := ⟨_, rfl⟩
  have hO0 : On w W0 := by rw [hW0]; exact ((On.refl hT).alloc _).alloc _
  obtain ⟨Q, hQ⟩ : ∃ Q, Q = w.heap.size := ⟨_, rfl⟩
  have HB0 : Hid (VB Q W0 (syL S ⟨a1, a2, a3, a4, k1, k2, k3, k4⟩)) := by rw [hW0, hQ]; exact Lib.hid ((vb_newS S _ w).on ((On.refl ((On.refl hT).alloc _).tab).alloc _))
  have HB1 : Hid (VB (Q + 1) W0 [.slice pa T.pub.length pc, .slice ma T.main.length mc]) := by
    have h := vb_new (w.alloc (syO S ⟨a1, a2, a3, a4, k1, k2, k3, k4⟩)) #[.slice pa T.pub.length pc, .slice ma T.main.length mc] 35
    rw [World.size_alloc] at h
    rw [hW0, hQ]; exact Lib.hid h
  have HSY : Hid (∀ wq, On W0 wq → _) := fun wq h => sy_cells (HB0.out.on h)
  have HTB : Hid (∀ wq, On W0 wq → wq.cell? ⟨Q + 1, 0, none⟩ = some (.slice pa T.pub.length pc) ∧ wq.cell? ⟨Q + 1, 1, none⟩ = some (.slice ma T.main.length mc)) := fun wq h => ⟨(HB1.out.on h).2.1 0 _ rfl, (HB1.out.on h).2.1 1 _ rfl⟩
  have HOK : Hid (On W0 W0) := On.refl hO0.tab
  have HSM : Hid (∀ wq, On W0 wq → Calls Tryd.prog 12 #[syA S ⟨a1, a2, a3, a4, k1, k2, k3, k4⟩] wq fun e w' => (∃ b : Bool, e = .returned (.bool b)) ∧ On W0 w') := fun wq h => (small_any S a1 a2 a3 a4 k1 k2 k3 k4 wq h.tab (hR.on (hO0.trans h))).mono fun e w' ⟨he, ho⟩ => ⟨he, h.trans ho⟩
  have HSH : Hid (∀ wq, On W0 wq → Calls Tryd.prog 21 #[.agg #[.slice pa T.pub.length pc, .slice ma T.main.length mc]] wq fun e w' => (∃ b : Bool, e = .returned (.bool b)) ∧ On W0 w') := fun wq h => (short_any T pa ma pc mc wq h.tab (hTr.on (hO0.trans h))).mono fun e w' ⟨he, ho⟩ => ⟨he, h.trans ho⟩
  have HLV : Hid (∀ wq, On W0 wq → Calls Tryd.prog 13 #[] wq fun e w' => e = .returned (.bool true) ∧ On W0 w') := fun wq h => (live_any wq h.tab).mono fun e w' ⟨he, ho⟩ => ⟨he, h.trans ho⟩
  have HFI : Hid (∀ wq, On W0 wq → Calls Tryd.prog 26 #[syA S ⟨a1, a2, a3, a4, k1, k2, k3, k4⟩, .agg #[.slice pa T.pub.length pc, .slice ma T.main.length mc]] wq fun e w' => e = .returned (.bool (fitS S T)) ∧ On W0 w') := fun wq h => (rfits_any S _ T pa ma pc mc wq h.tab (hR.on (hO0.trans h)) (hTr.on (hO0.trans h))).mono fun e w' ⟨he, ho⟩ => ⟨he, h.trans ho⟩
  have HW0 := Lib.hid hW0; have HQ := Lib.hid hQ; have HO0 := Lib.hid hO0
  have HR := Lib.hid hR; have HTR := Lib.hid hTr; have HPW := Lib.hid hPw
  cases hF : fitS S T with
  | false =>
    rw [hF] at HFI
    clear hT hR hTr hW0 hQ hO0 hPw hF HB0 HB1
    go_enter Tryd.func5, Tryd.ntmps5
    go_upto_region 1 with fail
    rw [← HW0.out, ← HQ.out]
    obtain ⟨s0, s1, s2, s3, s4, s5, s6, s7⟩ := HSY.out _ HOK.out
    obtain ⟨l0, l1⟩ := HTB.out _ HOK.out
    go_wp2_with (first
      | (go_at_call 12; (with_reducible refine (HSM.out _ HOK.out).mono ?_); rintro e w1 ⟨⟨b, rfl⟩, hO1⟩; obtain ⟨s0, s1, s2, s3, s4, s5, s6, s7⟩ := HSY.out w1 hO1; obtain ⟨l0, l1⟩ := HTB.out w1 hO1)
      | (go_at_call 21; (with_reducible refine (HSH.out _ hO1).mono ?_); rintro e w2 ⟨⟨b2, rfl⟩, hO2⟩; obtain ⟨s0, s1, s2, s3, s4, s5, s6, s7⟩ := HSY.out w2 hO2; obtain ⟨l0, l1⟩ := HTB.out w2 hO2)
      | (go_at_call 26; (with_reducible refine (HFI.out _ hO2).mono ?_); rintro e w3 ⟨rfl, hO3⟩)
      | (go_at_call 13; (with_reducible refine (HLV.out _ hO3).mono ?_); rintro e w4 ⟨rfl, hO4⟩)
      | (go_at_call 13; (with_reducible refine (HLV.out _ hO2).mono ?_); rintro e w4 ⟨rfl, hO4⟩)
      | (go_at_call 13; (with_reducible refine (HLV.out _ hO1).mono ?_); rintro e w4 ⟨rfl, hO4⟩)
      | fail)
    all_goals (go_ret; exact ⟨rfl, HO0.out.trans hO4⟩)
  | true =>
    rw [hF] at HFI
    have HFT := Lib.hid hF
    have hv : valSy S = true := by unfold fitS at hF; simp only [Bool.and_eq_true] at hF; exact hF.1
    have hs : szS S = true := by unfold valSy at hv; simp only [Bool.and_eq_true] at hv; exact hv.1
    obtain ⟨hvf, f1, f2, f3, f4, f5, f6, f7, f8, f9, fa, fb⟩ := szS_facts hs
    have hRL : S.rules.length ≤ 64 := by first | exact f9 | exact f8 | exact fa
    have hFL : S.fixed.length ≤ 64 := by first | exact f8 | exact f9
    have HRU : Hid (∀ i, i < S.rules.length → ∃ b off ua un uc, a2 = some ⟨b, off, none⟩ ∧ w.cell? ⟨b, off + i * 2 + 1, none⟩ = some (.slice ua un uc) ∧ MRw w (.slice ua un uc) (S.rules.getD i zRu).2) := fun i hi => by
      obtain ⟨b, off, e, ⟨_, u, h2, h3⟩⟩ := hR.2.2.1.cells i hi
      obtain ⟨ua, uc, rfl⟩ := h3.shape
      exact ⟨b, off, ua, _, uc, e, h2, h3⟩
    obtain ⟨m, hm⟩ : ∃ m, m = S.rules.length := ⟨_, rfl⟩
    have HM := Lib.hid hm
    have hm64 : m ≤ 64 := by omega
    have hrn := rowN_le hs
    have HRN8 : Hid (1 ≤ rowN S ∧ rowN S ≤ 8192) := ⟨Nat.one_le_two_pow, hrn.2⟩
    have HCO := Lib.hid (fit_cols hF)
    have HFL : Hid (S.fixed.length ≤ 64) := hFL
    have HML : Hid (T.main.length ≤ 64) := by
      unfold fitS at hF; simp only [Bool.and_eq_true, decide_eq_true_eq] at hF
      have := hF.2.2.2.1; unfold Hid; omega
    clear hrn hFL hm hT hR hTr hW0 hQ hO0 hPw hF hv hs hvf f1 f2 f3 f4 f5 f6 f7 f8 f9 fa fb hRL
    go_enter Tryd.func5, Tryd.ntmps5
    go_upto_region 1 with fail
    rw [← HW0.out, ← HQ.out]
    obtain ⟨s0, s1, s2, s3, s4, s5, s6, s7⟩ := HSY.out _ HOK.out
    obtain ⟨l0, l1⟩ := HTB.out _ HOK.out
    go_wp2_with (first
      | (go_at_call 12; (with_reducible refine (HSM.out _ HOK.out).mono ?_); rintro e w1 ⟨⟨b, rfl⟩, hO1⟩; obtain ⟨s0, s1, s2, s3, s4, s5, s6, s7⟩ := HSY.out w1 hO1; obtain ⟨l0, l1⟩ := HTB.out w1 hO1)
      | (go_at_call 21; (with_reducible refine (HSH.out _ hO1).mono ?_); rintro e w2 ⟨⟨b2, rfl⟩, hO2⟩; obtain ⟨s0, s1, s2, s3, s4, s5, s6, s7⟩ := HSY.out w2 hO2; obtain ⟨l0, l1⟩ := HTB.out w2 hO2)
      | (go_at_call 26; (with_reducible refine (HFI.out _ hO2).mono ?_); rintro e w3 ⟨rfl, hO3⟩)
      | (go_at_call 13; (with_reducible refine (HLV.out _ hO3).mono ?_); rintro e w4 ⟨rfl, hO4⟩)
      | (go_at_call 13; (with_reducible refine (HLV.out _ hO2).mono ?_); rintro e w4 ⟨rfl, hO4⟩)
      | (go_at_call 13; (with_reducible refine (HLV.out _ hO1).mono ?_); rintro e w4 ⟨rfl, hO4⟩)
      | fail)
    all_goals first
      | (go_ret; exact ⟨rfl, HO0.out.trans hO4⟩)
      | skip
    clear s0 s1 s2 s3 s4 s5 s6 s7 l0 l1
    go_wp2_with fail
    have HRN := Lib.hid (RRz.nil w S.rules w3 w3.heap.size)
    have HO33 := Lib.hid (On.refl hO3.tab)
    go_loopw [7, 8] (fun vo vi wr => ∃ i : Nat, i ≤ m ∧ vi = .int .i64 (i : Int) ∧ Hid (RRz w S.rules wr w3.heap.size vo i) ∧ Hid (On w3 wr)) (fun _ vi _ => m - (RowKit.intOf vi).toNat)
    case atStart => exact ⟨0, Nat.zero_le _, rfl, HRN, HO33⟩
    case round =>
      rename World => wr
      obtain ⟨i, hi, rfl, HV, HO⟩ := hrel
      obtain ⟨s0, s1, s2, s3, s4, s5, s6, s7⟩ := HSY.out wr (hO3.trans HO.out)
      rw [← HM.out] at s5
      by_cases hlt : i < m
      · have hlt' : (i : Int) < (m : Int) := by omega
        obtain ⟨b9, off, ua, un, uc, rfl, d0, hMR⟩ := HRU.out i (by rw [← HM.out]; exact hlt)
        have c0 := cell_on (HO0.out.trans (hO3.trans HO.out)) d0
        obtain ⟨us, ho, h2⟩ := HV.out
        obtain ⟨v', w', hrun, hown', hOn⟩ := app_rule ho HO.out.size ua un uc (by omega)
        have HV2 := Lib.hid (RRz.step h2 ho.1 hMR hown')
        have HO2 := Lib.hid (hOn w3 HO.out (Nat.le_refl _))
        have HRUN := Lib.hid hrun
        clear ho h2 hrun hown' hOn hMR d0
        go_wp2_with (at_builtin; refine wp_appendJ rfl (.tmp 35) (.tmp 43) _ _ rfl _ _ v' rfl rfl HRUN.out ?_)
        go_roundw
        case rel => exact ⟨i + 1, by omega, by simp, HV2, HO2⟩
        case measure => simp [RowKit.intOf]; omega
      · obtain rfl : m = i := by omega
        have hlt' : ¬ (m : Int) < (m : Int) := by omega
        have hB5 := HB0.out.on (hO3.trans HO.out)
        have f5 := hB5.2.2 5
        have HB5 := Lib.hid hB5
        obtain ⟨ra, rc, eu⟩ : ∃ ra rc, u7 = .slice ra m rc := by obtain ⟨us, ho, _⟩ := HV.out; exact own_shapez ho
        subst eu
        clear hB5
        go_upto_region 9 with fail
        obtain ⟨hG1, hSG, hQG, hTG⟩ := tn_g1 S a1 a2 a3 a4 k1 k2 k3 k4 [.slice pa T.pub.length pc, .slice ma T.main.length mc] ra rc m w3.heap.size Q w wr (HO0.out.trans (hO3.trans HO.out)) (Nat.le_of_eq HQ.out.symm) (HB1.out.on hO3).1 HB5.out (HB1.out.on (hO3.trans HO.out)) HV.out HM.out hm64 HR.out
        have hVG : RRz w S.rules (wr.setCell ⟨Q, 5, none⟩ (.slice ra m rc)) w3.heap.size (.slice ra m rc) m := HV.out.ap ((Ap.refl Q wr).setCell 5 _) (by have := (HB1.out.on hO3).1; omega)
        have hBQ : Q + 1 < w3.heap.size := (HB1.out.on hO3).1
        generalize wr.setCell ⟨Q, 5, none⟩ (.slice ra m rc) = G at *
        obtain ⟨PB, hPB⟩ : ∃ PB : Nat → Bool, ∀ i, (PB i = true ↔ pmH S.all1 T (S.all1.perms.getD i zPm)) := ⟨fun i => @decide _ (Classical.propDecidable _), fun i => @decide_eq_true_iff _ (Classical.propDecidable _)⟩
        obtain ⟨LB, hLB⟩ : ∃ LB : Nat → Bool, ∀ i, (LB i = true ↔ lkH S.all1 T (S.all1.looks.getD i zLk)) := ⟨fun i => @decide _ (Classical.propDecidable _), fun i => @decide_eq_true_iff _ (Classical.propDecidable _)⟩
        obtain ⟨PB2, hPB2⟩ : ∃ PB : Nat → Bool, ∀ i, (PB i = true ↔ pmH (S.all1.rot sh) (T.rot sh) (S.all1.perms.getD i zPm)) := ⟨fun i => @decide _ (Classical.propDecidable _), fun i => @decide_eq_true_iff _ (Classical.propDecidable _)⟩
        obtain ⟨LB2, hLB2⟩ : ∃ LB : Nat → Bool, ∀ i, (LB i = true ↔ lkH (S.all1.rot sh) (T.rot sh) (S.all1.looks.getD i zLk)) := ⟨fun i => @decide _ (Classical.propDecidable _), fun i => @decide_eq_true_iff _ (Classical.propDecidable _)⟩
        have hfit := fit_all1 S T HFT.out
        have hEQ := turn_same S.all1 T sh PB LB PB2 LB2 hfit (all1_one S) (fun i _ => hPB i) (fun i _ => hLB i) (fun i _ => hPB2 i) (fun i _ => hLB2 i)
        obtain ⟨b1, hb1⟩ : ∃ b1, b1 = (((allF S.all1 T PB LB).length : Int) == 0) := ⟨_, rfl⟩
        rw [← hb1] at hEQ
        have HH1 : Hid (Calls Tryd.prog 24 #[syA S.all1 ⟨a1, ra, a3, a4, k1, rc, k3, k4⟩, .agg #[.slice pa T.pub.length pc, .slice ma T.main.length mc]] G fun e w' => e = .returned (.tuple #[.bool b1, .int .i64 0]) ∧ On G w') := by
          rw [hb1]
          exact holds_yes S.all1 a1 ra a3 a4 k1 rc k3 k4 T pa ma pc mc PB LB G hG1.tab (HPW.out.on hG1) hSG (HTR.out.on hG1) hfit (fun i _ => hPB i) (fun i _ => hLB i)
        have HHX : Hid (∀ (fa na : Option Addr) (fc nc : Nat) (G3 : World), On w G3 → SyR G3 ⟨fa, ra, a3, a4, fc, rc, k3, k4⟩ (S.all1.rot sh) → TrR G3 pa na pc nc (T.rot sh) →
            Calls Tryd.prog 24 #[syA (S.all1.rot sh) ⟨fa, ra, a3, a4, fc, rc, k3, k4⟩, .agg #[.slice pa T.pub.length pc, .slice na T.main.length nc]] G3 fun e w' => e = .returned (.tuple #[.bool b1, .int .i64 0]) ∧ On G3 w') := fun fa na fc nc G3 hg hsy htr => by
          have h := holds_yes (S.all1.rot sh) fa ra a3 a4 fc rc k3 k4 (T.rot sh) pa na pc nc PB2 LB2 G3 hg.tab (HPW.out.on hg) hsy htr (fit_rot S.all1 T sh hfit) (fun i _ => hPB2 i) (fun i _ => hLB2 i)
          rw [show (T.rot sh).main.length = T.main.length by simp [Tr.rot]] at h
          rw [hEQ]
          exact h
        have HQG : Hid (∀ W, On G W → VB Q W (syL S.all1 ⟨a1, ra, a3, a4, k1, rc, k3, k4⟩) ∧ VB (Q + 1) W [.slice pa T.pub.length pc, .slice ma T.main.length mc]) := fun W h => ⟨hQG.on h, hTG.on h⟩
        have HVG : Hid (∀ W, On G W → RRz w S.rules W w3.heap.size (.slice ra m rc) m) := fun W h => hVG.on h
        have HG1 := Lib.hid hG1
        have HTU : Hid (∀ W, On G W → Calls Tryd.prog 28 #[.slice a1 S.all1.fixed.length k1, .int .i64 (sh : Int)] W fun e w' => (∃ a c, e = .returned (.slice a S.all1.fixed.length c) ∧ ∀ W', NewK W.heap.size w' W' → ColL W' (.slice a S.all1.fixed.length c) (S.all1.fixed.map (rotC sh))) ∧ On W w') := fun W h =>
          turned_any S.all1.fixed _ sh (rowN S) W h.tab (ColL.on HR.out.2.1 (hG1.trans h)) (fun j hj => HCO.out.1 _ (getD_mem_g S.fixed [] j hj)) HRN8.out HFL.out hsh
        have HTM : Hid (∀ W, On w W → Calls Tryd.prog 28 #[.slice ma T.main.length mc, .int .i64 (sh : Int)] W fun e w' => (∃ a c, e = .returned (.slice a T.main.length c) ∧ ∀ W', NewK W.heap.size w' W' → ColL W' (.slice a T.main.length c) (T.main.map (rotC sh))) ∧ On W w') := fun W h =>
          turned_any T.main _ sh (rowN S) W h.tab (ColL.on HTR.out.2 h) (fun j hj => HCO.out.2 _ (getD_mem_g T.main [] j hj)) HRN8.out HML.out hsh
        have HT3 := Lib.hid (fun (fa na : Option Addr) (fc nc : Nat) (w5 w6 w7 : World) (h5 : On G w5) => tn_g3 S.all1 T a1 a2 a3 a4 k1 k2 k3 k4 pa ma pc mc S.rules ra fa na rc fc nc w3.heap.size Q sh w G w5 w6 w7 rfl (HM.out ▸ hm64) HR.out HTR.out (hG1.trans h5) (Nat.le_of_eq HQ.out.symm) hBQ)
        have HT2 := Lib.hid (fun (fa : Option Addr) (fc : Nat) (w5 w6 : World) (h5 : On G w5) => tn_g2 S.all1 a1 ra a3 a4 k1 rc k3 k4 [.slice pa T.pub.length pc, .slice ma T.main.length mc] fa fc Q sh w w5 w6 (hG1.trans h5) (Nat.le_of_eq HQ.out.symm))
        clear hEQ hPB hLB hPB2 hLB2 hfit hb1 hG1 hSG hQG hTG hVG hBQ HB0 HB1 HSY HTB HB5 f5 s0 s1 s2 s3 s4 s5 s6 s7
        have hGG := Lib.hid (On.refl HG1.out.tab)
        obtain ⟨s0, s1, s2, s3, s4, s5, s6, s7⟩ := sy_cells (HQG.out G hGG.out).1
        have l0 := (HQG.out G hGG.out).2.2.1 0 _ rfl; have l1 := (HQG.out G hGG.out).2.2.1 1 _ rfl
        go_upto_region 10 with (go_at_call 24; (with_reducible refine HH1.out.mono ?_); rintro e w5 ⟨rfl, hO5⟩)
        clear s0 s1 s2 s3 s4 s5 s6 s7 l0 l1
        obtain ⟨s0, s1, s2, s3, s4, s5, s6, s7⟩ := sy_cells (HQG.out w5 hO5).1
        have HO5 := Lib.hid hO5
        go_upto_region 11 with (go_at_call 28; (with_reducible refine (HTU.out _ HO5.out).mono ?_); rintro e w6 ⟨⟨fa, fc, rfl, hCf⟩, hO6⟩; clear s0 s1 s2 s3 s4 s5 s6 s7; obtain ⟨s0, s1, s2, s3, s4, s5, s6, s7⟩ := sy_cells ((HQG.out w5 HO5.out).1.on hO6); have f4 := ((HQG.out w5 HO5.out).1.on hO6).2.2 4)
        clear s0 s1 s2 s3 s4 s5 s6 s7 f4
        have hq5 := HQG.out w5 HO5.out
        have hv5 := HVG.out w5 HO5.out
        rw [HM.out] at hv5
        obtain ⟨hG2, hQ2, hT2, hN2⟩ := HT2.out fa fc w5 w6 HO5.out hO6 hq5.1 hq5.2 hCf
        have HT2b := Lib.hid hT2; have HG2 := Lib.hid hG2
        have l1 := hT2.2.1 1 _ rfl
        clear hQ2 hT2 hN2 hG2
        go_upto_region 12 with (go_at_call 28; (with_reducible refine (HTM.out _ HG2.out).mono ?_); rintro e w7 ⟨⟨na, nc, rfl, hMn⟩, hO7⟩; have t7 := HT2b.out.on hO7; have l7 := t7.2.1 1 _ rfl; have f7 := t7.2.2 1; clear t7)
        clear l1 l7 f7
        obtain ⟨hG3, hS3, hTr3, hQ3, hB3⟩ := HT3.out fa na fc nc w5 w6 w7 HO5.out hO6 hq5.1 hq5.2 hv5 hCf hO7 hMn
        have HH2 := HHX.out fa na fc nc _ hG3 hS3 hTr3
        obtain ⟨s0, s1, s2, s3, s4, s5, s6, s7⟩ := sy_cells hQ3
        have l0 := hB3.2.1 0 _ rfl; have l1 := hB3.2.1 1 _ rfl
        have HG3 := Lib.hid hG3
        clear hq5 hv5 hG3 hS3 hTr3 hQ3 hB3 hCf hMn HHX HT3 HT2 HTM HTU HVG HQG HH1 hO6 hO7
        cases b1
        all_goals
          go_wp2_with (first
            | (go_at_call 24; (with_reducible refine HH2.mono ?_); rintro e w8 ⟨rfl, hO8⟩)
            | (go_at_call 13; (with_reducible refine (live_any _ hO8.tab).mono ?_); rintro e w9 ⟨rfl, hO9⟩)
            | fail)
          go_ret
          exact ⟨rfl, HG3.out.trans (hO8.trans hO9)⟩
end Go.Proofs.YtbgljelpldnldaaDoor
