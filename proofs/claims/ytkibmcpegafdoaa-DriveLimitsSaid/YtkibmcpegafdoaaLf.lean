/- A contract over rows, of the limiter, way by way. -/
import Derived.Test.YtkibmcpegafdoaaLf1
import Derived.Test.YtkibmcpegafdoaaLf2
namespace Go.Proofs.Ytkibmcpegafdoaa
open Go Go.SX Go.RowKit DR
set_option linter.unusedVariables false
set_option linter.unusedSimpArgs false
set_option maxRecDepth 100000
theorem ho22_ok {fn : Nat → List Int → Int} (h : GoodB fn) (hT : TreeIs fn 130 2 ro18T) (hA : TreeIs fn 150 2 ho22T) : (pairRC 22 hoSh [] formHo 150 []).OK Try.prog fn :=
  pairRC_paths (X := Xa) (d := 0) (n := 100000) ho22T mixD (Xa_ok h hT) hA (by kernel_rfl) (by kernel_rfl) (by kernel_rfl) (paths_cut (i := 0) (m := 20) ho22_w0 (paths_cut (i := 20) (m := 8) ho22_w20 (paths_cut (i := 28) (m := 8) ho22_w28 (paths_cut (i := 36) (m := 8) ho22_w36 (paths_cut (i := 44) (m := 8) ho22_w44 (paths_cut (i := 52) (m := 18) ho22_w52 (paths_end (i := 70) (by kernel_rfl))))))))
end Go.Proofs.Ytkibmcpegafdoaa
