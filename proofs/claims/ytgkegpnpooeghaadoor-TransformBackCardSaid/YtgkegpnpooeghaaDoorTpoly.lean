/- Contracts of package poly and of own at lists that are known, each with what it leaves. -/
import Derived.Test.YtgkegpnpooeghaaDoorTworks
import Derived.Test.YtgkegpnpooeghaaDoorTsized
import Derived.Test.YtgkegpnpooeghaaDoorTown
namespace Go.Proofs.YtgkegpnpooeghaaDoor
open Go.RowKit
set_option linter.unusedVariables false

theorem w_own (l : List Nat) (n : Nat) (v : Value) (w : World) (hT : Tab w) (hR : Reads w v l) (hS : Shape v l) (hn : n ≤ 1000000) :
    Calls Tryd.prog 11 #[v, .int .i64 (n : Int)] w fun e w' => ∃ a c, e = .returned (.slice a (l.take n).length c) ∧ Reads w' (.slice a (l.take n).length c) (l.take n) ∧ On w w' :=
  (own_any l n v w hT hR hS hn).mono fun e w' ⟨⟨v', h1, h2⟩, h3⟩ => by
    obtain ⟨a, c, rfl⟩ := h2.shape
    exact ⟨a, c, h1, h2, h3⟩
theorem w_pmul (f : Int) (l m : List Nat) (v v' : Value) (w : World) (hT : Tab w) (hv : validB f = true) (hR : Reads w v l) (hR' : Reads w v' m) (hl : l.length ≤ 10000) (hl' : m.length ≤ 10000) :
    Calls Tryd.prog 30 #[.int .i64 f, v, v'] w fun e w' => ∃ a, e = .returned (.tuple #[.slice a (mulL f l m).length (mulL f l m).length, .int .i64 0]) ∧ Reads w' (.slice a (mulL f l m).length (mulL f l m).length) (mulL f l m) ∧ On w w' := by
  refine (mul_any' f l m v v' w hT hv hR hR' (by omega) (by omega)).mono ?_
  rintro e w' ⟨h1, h2, h3⟩
  have ha := normF_len f l
  have hb := normF_len f m
  obtain ⟨u, h4, h5⟩ := h1 (by omega)
  obtain ⟨a, rfl⟩ := fre_shape h5
  refine ⟨a, h4, h5.reads (fun x hx => ?_) ?_, h3⟩
  · have := mulL_lt f l m ((valid_iff f).1 hv) x hx; have := pOf_le f; omega
  · unfold mulL; split
    · simp
    · simp; omega
theorem addL_len (f : Int) (l m : List Nat) : (addL f l m).length ≤ max l.length m.length := by
  unfold addL; have := normF_len f ((List.range (max l.length m.length)).map fun i => addF f (l.getD i 0) (m.getD i 0)); simpa using this
theorem scaleF_len (f : Int) (l : List Nat) (s : Nat) : (scaleF f l s).length ≤ l.length := by
  unfold scaleF; have := normF_len f (l.map fun x => mulF f x s); simpa using this
theorem w_add (f : Int) (l m : List Nat) (v v' : Value) (w : World) (hT : Tab w) (hR : Reads w v l) (hR' : Reads w v' m) (hl : l.length ≤ 10000) (hl' : m.length ≤ 10000) :
    Calls Tryd.prog 31 #[.int .i64 f, v, v'] w fun e w' => ∃ a, e = .returned (.slice a (addL f l m).length (addL f l m).length) ∧ Reads w' (.slice a (addL f l m).length (addL f l m).length) (addL f l m) ∧ On w w' := by
  refine (padd_any f l m v v' w hT hR hR' (by omega) (by omega)).mono ?_
  rintro e w' ⟨⟨u, rfl, h5⟩, h3⟩
  obtain ⟨a, rfl⟩ := fre_shape h5
  have := addL_len f l m
  exact ⟨a, rfl, h5.reads (fun x hx => by unfold addL at hx; have := normF_le f _ x hx; omega) (by omega), h3⟩
theorem w_scale (f : Int) (l : List Nat) (s : Nat) (v : Value) (w : World) (hT : Tab w) (hR : Reads w v l) (hl : l.length ≤ 10000) (hs : s ≤ 18446744073709551615) :
    Calls Tryd.prog 32 #[.int .i64 f, v, .int .u64 (s : Int)] w fun e w' => ∃ a, e = .returned (.slice a (scaleF f l s).length (scaleF f l s).length) ∧ Reads w' (.slice a (scaleF f l s).length (scaleF f l s).length) (scaleF f l s) ∧ On w w' := by
  refine (scale_any f l s v w hT hR (by omega) hs).mono ?_
  rintro e w' ⟨⟨u, rfl, h5⟩, h3⟩
  obtain ⟨a, rfl⟩ := fre_shape h5
  have := scaleF_len f l s
  exact ⟨a, rfl, h5.reads (fun x hx => by unfold scaleF at hx; have := normF_le f _ x hx; omega) (by omega), h3⟩
theorem mulL_lenle {f : Int} {a b : List Nat} : (mulL f a b).length ≤ (normF f a).length + (normF f b).length - 1 := by
  unfold mulL; split
  · simp
  · simp
end Go.Proofs.YtgkegpnpooeghaaDoor
