/- Package poly: Divide: what the call returns. -/
import Derived.Test.YtgkegpnpooeghaaDoorPwalkF
import Derived.Test.YtgkegpnpooeghaaDoorPdivm
import Derived.Test.YtgkegpnpooeghaaDoorQtail
namespace Go.Proofs.YtgkegpnpooeghaaDoor
open Go.RowKit
set_option linter.unusedVariables false

theorem Fre.drewN {B : Nat} {w : World} {v : Value} {l : List Nat} (h : Fre B w v l) (n : Nat) : Fre B (w.drewN n) v l := h
theorem Blk.fre {B g : Nat} {w : World} {l : List Nat} {n : Nat} (h : Blk g w l) (hB : B ≤ g) (hn : l.length = n) : Fre B w (.slice (some ⟨g, 0, none⟩) n n) l := by subst hn; exact .inr ⟨g, rfl, hB, h⟩

end Go.Proofs.YtgkegpnpooeghaaDoor
