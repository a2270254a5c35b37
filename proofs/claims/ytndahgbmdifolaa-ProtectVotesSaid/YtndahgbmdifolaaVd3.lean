/- A contract of the votes, in a pair. -/
import Derived.Test.YtndahgbmdifolaaVc
namespace Go.Proofs.Ytndahgbmdifolaa
open Go Go.SX Go.RowKit
set_option linter.unusedVariables false
set_option linter.unusedSimpArgs false
set_option maxRecDepth 100000
theorem hoR_ok {fn : Nat → List Int → Int} (h : Good fn) : hoR.OK Try.prog fn :=
  pairWC_ok (X := Xj [60] jdA) (d := 1) (n := 100000) ho35T ho35T mixV (Xj_ok h _ _) h.ho (by kernel_rfl) (by kernel_rfl) (by kernel_rfl) (by kernel_rfl) (by kernel_rfl) (by kernel_rfl)
end Go.Proofs.Ytndahgbmdifolaa
