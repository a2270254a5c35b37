/- A contract over rows, of the limiter. -/
import Derived.Test.YtkibmcpegafdoaaLa
namespace Go.Proofs.Ytkibmcpegafdoaa
open Go Go.SX Go.RowKit DR
set_option linter.unusedVariables false
set_option linter.unusedSimpArgs false
set_option maxRecDepth 100000
set_option maxRecDepth 100000 in
theorem ho22_w36 : (pathsFrom ho22T 36 8).all (pathOK Try.prog Xa 100000 22 hoSh [] 0 formHo) = true := by kernel_rfl
set_option maxRecDepth 100000 in
theorem ho22_w44 : (pathsFrom ho22T 44 8).all (pathOK Try.prog Xa 100000 22 hoSh [] 0 formHo) = true := by kernel_rfl
set_option maxRecDepth 100000 in
theorem ho22_w52 : (pathsFrom ho22T 52 18).all (pathOK Try.prog Xa 100000 22 hoSh [] 0 formHo) = true := by kernel_rfl
end Go.Proofs.Ytkibmcpegafdoaa
