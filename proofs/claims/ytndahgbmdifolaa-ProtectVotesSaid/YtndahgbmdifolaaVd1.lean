/- A contract of the votes, in a pair. -/
import Derived.Test.YtndahgbmdifolaaVc
namespace Go.Proofs.Ytndahgbmdifolaa
open Go Go.SX Go.RowKit
set_option linter.unusedVariables false
set_option linter.unusedSimpArgs false
set_option maxRecDepth 100000
theorem apR_ok {fn : Nat → List Int → Int} (h : Good fn) : apR.OK Try.prog fn :=
  pairWC_ok (X := Xj [] jdA) (d := 1) (n := 100000) ap37T ap37T mixV (Xj_ok h _ _) h.ap (by kernel_rfl) (by kernel_rfl) (by kernel_rfl) (by kernel_rfl) (by kernel_rfl) (by kernel_rfl)
end Go.Proofs.Ytndahgbmdifolaa
