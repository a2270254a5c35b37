/- A contract of the votes, in a pair. -/
import Derived.Test.YtndahgbmdifolaaVa
namespace Go.Proofs.Ytndahgbmdifolaa
open Go Go.SX Go.RowKit
set_option linter.unusedVariables false
set_option linter.unusedSimpArgs false
set_option maxRecDepth 100000
theorem nu_ok {fn : Nat → List Int → Int} (h : Good fn) : nuW.OK Try.prog fn :=
  pairWC_ok (X := noPar) (d := 1) (n := 100000) nu57T nu57T mixV (noPar_ok _ h.rows) h.nu (by kernel_rfl) (by kernel_rfl) (by kernel_rfl) (by kernel_rfl) (by kernel_rfl) (by kernel_rfl)
end Go.Proofs.Ytndahgbmdifolaa
