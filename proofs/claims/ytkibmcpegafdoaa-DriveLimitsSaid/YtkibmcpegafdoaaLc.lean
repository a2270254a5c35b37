/- A contract over rows, of the limiter, way by way. -/
import Derived.Test.YtkibmcpegafdoaaLc1
import Derived.Test.YtkibmcpegafdoaaLc2
namespace Go.Proofs.Ytkibmcpegafdoaa
open Go Go.SX Go.RowKit DR
set_option linter.unusedVariables false
set_option linter.unusedSimpArgs false
set_option maxRecDepth 100000
theorem al20_ok {fn : Nat → List Int → Int} (h : GoodB fn) (hT : TreeIs fn 130 2 ro18T) (hA : TreeIs fn 140 5 al20T) : (pairRC 20 alSh [] formAl 140 []).OK Try.prog fn :=
  pairRC_paths (X := Xa) (d := 0) (n := 100000) al20T mixD (Xa_ok h hT) hA (by kernel_rfl) (by kernel_rfl) (by kernel_rfl) (paths_cut (i := 0) (m := 20) al20_w0 (paths_cut (i := 20) (m := 8) al20_w20 (paths_cut (i := 28) (m := 8) al20_w28 (paths_cut (i := 36) (m := 8) al20_w36 (paths_cut (i := 44) (m := 8) al20_w44 (paths_cut (i := 52) (m := 22) al20_w52 (paths_end (i := 74) (by kernel_rfl))))))))
end Go.Proofs.Ytkibmcpegafdoaa
