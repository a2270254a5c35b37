/- A contract over rows, of the limiter. -/
import Derived.Test.YtkibmcpegafdoaaLa
namespace Go.Proofs.Ytkibmcpegafdoaa
open Go Go.SX Go.RowKit DR
set_option linter.unusedVariables false
set_option linter.unusedSimpArgs false
set_option maxRecDepth 100000
set_option maxRecDepth 100000 in
theorem al20_w36 : (pathsFrom al20T 36 8).all (pathOK Try.prog Xa 100000 20 alSh [] 0 formAl) = true := by kernel_rfl
set_option maxRecDepth 100000 in
theorem al20_w44 : (pathsFrom al20T 44 8).all (pathOK Try.prog Xa 100000 20 alSh [] 0 formAl) = true := by kernel_rfl
set_option maxRecDepth 100000 in
theorem al20_w52 : (pathsFrom al20T 52 22).all (pathOK Try.prog Xa 100000 20 alSh [] 0 formAl) = true := by kernel_rfl
end Go.Proofs.Ytkibmcpegafdoaa
