/- A contract over rows, of the limiter. -/
import Derived.Test.YtkibmcpegafdoaaLa
namespace Go.Proofs.Ytkibmcpegafdoaa
open Go Go.SX Go.RowKit DR
set_option linter.unusedVariables false
set_option linter.unusedSimpArgs false
set_option maxRecDepth 100000
theorem al19_ok {fn : Nat → List Int → Int} (h : GoodB fn) (hT : TreeIs fn 130 2 ro18T) (hA : TreeIs fn 140 5 al20T) : (pairRC 19 alSh [] formAl 140 []).OK Try.prog fn :=
  pairRC_ok (X := Xa) (d := 0) (n := 100000) al20T al19T mixD (Xa_ok h hT) hA (by kernel_rfl) (by kernel_rfl) (by kernel_rfl) (by kernel_rfl) (by kernel_rfl) (by kernel_rfl) (by kernel_rfl)
end Go.Proofs.Ytkibmcpegafdoaa
