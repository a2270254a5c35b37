/- Shares on some ways. -/
import Derived.Test.YtpedboeggmffnaaBc
namespace Go.Proofs.Ytpedboeggmffnaa
open Go Go.SX Go.RowKit
set_option linter.unusedVariables false
set_option linter.unusedSimpArgs false
set_option maxRecDepth 100000
theorem w8x7x2 : wayW Try.prog (XS 7) 100000 8 shS outS [0] (shV 7) c8x7x5 = true := by kernel_rfl
theorem w8x8x3 : wayW Try.prog (XS 8) 100000 8 shS outS [0] (shV 8) c8x8x9 = true := by kernel_rfl
theorem w8x8x9 : wayW Try.prog (XS 8) 100000 8 shS outS [0] (shV 8) c8x8x18 = true := by kernel_rfl
theorem w9x7x1 : wayW Try.prog (XS 7) 100000 9 shS outS [0] (shV 7) c9x7x7 = true := by kernel_rfl
theorem w9x8x1 : wayW Try.prog (XS 8) 100000 9 shS outS [0] (shV 8) c9x8x11 = true := by kernel_rfl
theorem w9x8x7 : wayW Try.prog (XS 8) 100000 9 shS outS [0] (shV 8) c9x8x19 = true := by kernel_rfl
theorem w9x5x0 : wayW Try.prog (XS 5) 100000 9 shS outS [0] (shV 5) (rcCtx shS (preN 5) 0) = true := by kernel_rfl
theorem w8x2x0 : wayW Try.prog (XS 2) 100000 8 shS outS [0] (shV 2) (rcCtx shS (preN 2) 0) = true := by kernel_rfl
theorem w8x1x0 : wayW Try.prog (XS 1) 100000 8 shS outS [0] (shV 1) (rcCtx shS (preN 1) 0) = true := by kernel_rfl
end Go.Proofs.Ytpedboeggmffnaa
