/- SystemPerms: the table of powers out of what is tied; a list of bytes as an argument. -/
import Derived.Test.YtbgljelpldnldaaDoorKz27
import Derived.Test.YtbgljelpldnldaaDoorKp06
set_option linter.unusedSimpArgs false
set_option linter.unusedVariables false
/- SystemPerms: the table of powers out of what is tied; a list of bytes as an argument. -/
namespace Go.Proofs.YtbgljelpldnldaaDoor
open Go.ChangeShapes Go.WideShapes Go.ChangeAt Go.RowKit
set_option linter.unusedVariables false
set_option linter.constructorNameAsVariable false

theorem gPowz : Tryd.prog.globalNamed "internal/strconv.uint64pow10" = some 1 := by kernel_rfl
theorem tPowz : (Tryd.prog.globals[1]?).map (·.type) = some 195 := by kernel_rfl
theorem cellsPowz : Tryd.prog.cellsOf 195 = 20 := by kernel_rfl
theorem laidPowz_eq {H : Type} : (Rows.laid_internal_strconv_uint64pow10 : DataW H) = Lib.tabData .u64 Lib.pow10Tab := rfl
set_option maxRecDepth 100000 in
theorem pwz_of_laid {W : World} (h : laidMetH Tryd.prog laidL W) : Pwz W := by
  rw [MakeChecks.laidMetH_plain _ _ _ (by kernel_rfl)] at h
  obtain ⟨ps, ⟨_, _, _, _, _, _, _, _, _, _, ⟨_, _, _, _, _, _, _, _, _, _, ⟨_, _, _, _, _, _, _, _, _, _, ⟨g, t, cs, fuel, p, q, hg, ht, hv, hd, _, _⟩, _⟩, _⟩, _⟩, _, _⟩ := h
  obtain rfl := Option.some.inj (gPowz.symm.trans hg)
  obtain rfl := Option.some.inj (tPowz.symm.trans ht)
  rw [laidPowz_eq] at hd
  unfold Pwz Lib.TabIs
  rw [hv, ← Lib.cells_of_tab Tryd.underlying195 Tryd.underlying53 cellsU64 cellsPowz hd]
theorem cellsU8 : Tryd.prog.cellsOf 5 = 1 := by kernel_rfl
set_option maxRecDepth 100000 in
theorem arg_abz {H : Type} {enc : TypeId × Value → H} {W : World} {base : Nat} {v : Value} {d : DataW H} {p : List MemPlace} (hv : Value.okWide Tryd.prog W .any base 52 v)
    (h : DataW.Trod enc Tryd.prog W 0 (fun _ => true) true 52 v d p) : ∃ m, AbZ W v m := by
  obtain ⟨a0, len, cap, rfl⟩ := okWide_slice Tryd.underlying52 hv
  obtain ⟨fuel, hf⟩ := h
  rcases open_ints Tryd.underlying52 Tryd.underlying5 cellsU8 hf with ⟨hcs, hx⟩ | ⟨a, len', cap', zs, hcs, _, hl, hm, hz, hx, hcell, hwz⟩
  · simp [Value.cells] at hcs
    obtain ⟨rfl, rfl, rfl⟩ := hcs
    exact ⟨0, none, 0, rfl, by omega, fun k hk => by omega⟩
  · simp [Value.cells] at hcs
    obtain ⟨rfl, rfl, rfl⟩ := hcs
    simp only [if_true] at hz
    unfold maxLen at hm
    refine ⟨len, some a, cap, rfl, by omega, fun i hi => ?_⟩
    obtain ⟨b, off, spot⟩ := a
    have hspot : spot = none := by simpa [Addr.add] using World.cell?_spot (hcell 0 (by omega))
    subst hspot
    have hmem : zs.getD i 0 ∈ zs := by
      rw [List.getD_eq_getElem?_getD, List.getElem?_eq_getElem (by omega)]; exact List.getElem_mem _
    have hw := bounds_u8 (hwz _ hmem)
    obtain ⟨c, hc⟩ : ∃ c : Nat, zs.getD i 0 = (c : Int) := ⟨(zs.getD i 0).toNat, by omega⟩
    refine ⟨b, off, c, rfl, by omega, ?_⟩
    have h1 := hcell i (by omega)
    rw [add_plain, hc] at h1
    exact h1
end Go.Proofs.YtbgljelpldnldaaDoor
