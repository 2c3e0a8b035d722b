/- The walk of the law SpongeHashes: it returns true. -/
import Derived.Test.YtbmieoedpgdlpaaDoorSlives
import Derived.Test.YtbmieoedpgdlpaaDoorSrefh
import Derived.Test.YtbmieoedpgdlpaaDoorSargs
namespace Go.Proofs.YtbmieoedpgdlpaaDoor
open Go.RowKit
set_option linter.unusedVariables false

theorem list_take {w : World} {a : Option Addr} {cap : Nat} {l : List Nat} (h : Reads w (.slice a l.length cap) l) (n m : Nat) (hn : m = min l.length n) : Reads w (.slice a m cap) (l.take n) := by
  subst hn
  obtain ⟨hU, hL, hc⟩ := h
  refine ⟨fun x hx => hU x (List.mem_of_mem_take hx), by rw [List.length_take]; omega, ?_⟩
  rcases hc with ⟨rfl, a', cap', hv⟩ | ⟨b, off, cap', hv, hc⟩
  · exact .inl ⟨by simp, a, cap, by simp⟩
  · simp only [Value.slice.injEq, and_true, true_and] at hv
    obtain ⟨rfl, rfl⟩ := hv
    refine .inr ⟨b, off, cap, by rw [List.length_take, Nat.min_comm], fun i hi => ?_⟩
    rw [List.length_take] at hi
    have : (l.take n).getD i 0 = l.getD i 0 := by
      rw [List.getD_eq_getElem?_getD, List.getD_eq_getElem?_getD, List.getElem?_take, if_pos (by omega)]
    rw [this]
    exact hc i (by omega)
theorem ph (f : Int) (l : List Nat) (a : Option Addr) (m cap U V : Nat) (w : World) (hT : Tab w) (hR : Reads w (.slice a m cap) l) (hm : l.length = m) (h : m ≤ cap ∧ cap ≤ 9223372036854775807 ∧ m ≤ 200) (hU : okN f (hashS f l).a = U) (hV : okN f (hashS f l).b = V) :
    Calls Tryd.prog 21 #[.int .i64 f, .slice a m cap] w fun e w' => e = .returned (.agg #[.int .u64 (U : Int), .int .u64 (V : Int)]) ∧ On w w' := by
  subst hm hU hV; exact hash_any f l a cap w hT hR h.1 h.2.1 (by omega)
theorem qh (f : Int) (l : List Nat) (a : Option Addr) (m cap U V : Nat) (w : World) (hT : Tab w) (hR : Reads w (.slice a m cap) l) (hm : l.length = m) (h : m ≤ cap ∧ cap ≤ 9223372036854775807 ∧ m ≤ 200) (hU : okN f (hashS f l).a = U) (hV : okN f (hashS f l).b = V) :
    Calls Tryd.prog 22 #[.int .i64 f, .slice a m cap] w fun e w' => e = .returned (.agg #[.int .u64 (U : Int), .int .u64 (V : Int)]) ∧ On w w' := by
  subst hm hU hV; exact rhash_any f l a cap w hT hR h.1 (by omega)
set_option maxHeartbeats 2000000 in
set_option maxRecDepth 100000 in
theorem hashes_any (f : Int) (l : List Nat) (v : Value) (w : World) (hT : Tab w) (hR : Reads w v l) (hz : Shape v l) :
    Calls Tryd.prog 5 #[.int .i64 f, v] w fun e w' => e = .returned (.bool true) ∧ On w w' := by
  obtain ⟨a, cap, rfl, h1, h2, h3⟩ := hz
  obtain ⟨m, hm⟩ : ∃ m, m = min l.length 200 := ⟨_, rfl⟩
  have hRt := list_take hR 200 m hm
  have hlen : (l.take 200).length = m := by rw [List.length_take, Nat.min_comm]; exact hm.symm
  obtain ⟨U, hU⟩ : ∃ U, okN f (hashS f (l.take 200)).a = U := ⟨_, rfl⟩
  obtain ⟨V, hV⟩ : ∃ U, okN f (hashS f (l.take 200)).b = U := ⟨_, rfl⟩
  have HU := Lib.hid hU
  have HV := Lib.hid hV
  have HRT := Lib.hid hRt
  have HLN := Lib.hid hlen
  have HT := Lib.hid hT
  have h2e := eq2
  have HMM : Hid (m ≤ cap ∧ cap ≤ 9223372036854775807 ∧ m ≤ 200) := ⟨by omega, h2, by omega⟩
  have HH1 : Hid (∀ wq, On w wq → Calls Tryd.prog 21 #[.int .i64 f, .slice a m cap] wq fun e w' => e = .returned (.agg #[.int .u64 (U : Int), .int .u64 (V : Int)]) ∧ On w w') := fun wq h => (ph f _ a m cap U V wq h.tab (HRT.out.on h) HLN.out HMM.out HU.out HV.out).mono fun e w' ⟨he, ho⟩ => ⟨he, h.trans ho⟩
  have HH2 : Hid (∀ wq, On w wq → Calls Tryd.prog 22 #[.int .i64 f, .slice a m cap] wq fun e w' => e = .returned (.agg #[.int .u64 (U : Int), .int .u64 (V : Int)]) ∧ On w w') := fun wq h => (qh f _ a m cap U V wq h.tab (HRT.out.on h) HLN.out HMM.out HU.out HV.out).mono fun e w' ⟨he, ho⟩ => ⟨he, h.trans ho⟩
  have HLV : Hid (∀ wq, On w wq → Calls Tryd.prog 16 #[] wq fun e w' => e = .returned (.bool true) ∧ On w w') := fun wq h => (lives_any wq h.tab).mono fun e w' ⟨he, ho⟩ => ⟨he, h.trans ho⟩
  have hmin : min ((l.length : Nat) : Int) 200 = (m : Int) := by omega
  have hmc : m ≤ cap := by omega
  clear hU hV hRt hlen hR hT HRT HLN HMM
  rcases a with _ | ad
  · have hc0 := h3 rfl
    subst hc0
    obtain rfl : m = 0 := by omega
    obtain rfl := List.length_eq_zero_iff.1 (show l.length = 0 by omega)
    clear h1 h2 h3 hm hmc HU HV hmin
    have hmin : min (0 : Int) 200 = 0 := by decide
    go_enter Tryd.func5, Tryd.ntmps5
    go_wp2_with fail
    with_reducible refine (HH1.out _ (On.refl HT.out)).mono ?_
    rintro e w1 ⟨rfl, hO1⟩
    have HO1 := Lib.hid hO1
    clear hO1
    go_wp2_with fail
    with_reducible refine (HH2.out _ HO1.out).mono ?_
    rintro e w2 ⟨rfl, hO2⟩
    have HO2 := Lib.hid hO2
    clear hO2
    go_wp2_with fail
    with_reducible refine (HLV.out _ HO2.out).mono ?_
    rintro e w3 ⟨rfl, hO3⟩
    have HO3 := Lib.hid hO3
    clear hO3
    go_wp2
    go_ret
    exact ⟨rfl, HO3.out⟩
  · clear h3 hm HU HV
    go_enter Tryd.func5, Tryd.ntmps5
    go_wp2_with fail
    with_reducible refine (HH1.out _ (On.refl HT.out)).mono ?_
    rintro e w1 ⟨rfl, hO1⟩
    have HO1 := Lib.hid hO1
    clear hO1
    go_wp2_with fail
    with_reducible refine (HH2.out _ HO1.out).mono ?_
    rintro e w2 ⟨rfl, hO2⟩
    have HO2 := Lib.hid hO2
    clear hO2
    go_wp2_with fail
    with_reducible refine (HLV.out _ HO2.out).mono ?_
    rintro e w3 ⟨rfl, hO3⟩
    have HO3 := Lib.hid hO3
    clear hO3
    go_wp2
    go_ret
    exact ⟨rfl, HO3.out⟩
end Go.Proofs.YtbmieoedpgdlpaaDoor
