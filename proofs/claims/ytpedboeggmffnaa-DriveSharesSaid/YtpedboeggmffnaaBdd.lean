/- Shares on some ways. -/
import Derived.Test.YtpedboeggmffnaaBc
namespace Go.Proofs.Ytpedboeggmffnaa
open Go Go.SX Go.RowKit
set_option linter.unusedVariables false
set_option linter.unusedSimpArgs false
set_option maxRecDepth 100000
theorem w8x7x1 : wayW Try.prog (XS 7) 100000 8 shS outS [0] (shV 7) c8x7x4 = true := by kernel_rfl
theorem w8x8x2 : wayW Try.prog (XS 8) 100000 8 shS outS [0] (shV 8) c8x8x8 = true := by kernel_rfl
theorem w8x8x8 : wayW Try.prog (XS 8) 100000 8 shS outS [0] (shV 8) c8x8x17 = true := by kernel_rfl
theorem w9x7x0 : wayW Try.prog (XS 7) 100000 9 shS outS [0] (shV 7) c9x7x6 = true := by kernel_rfl
theorem w9x8x0 : wayW Try.prog (XS 8) 100000 9 shS outS [0] (shV 8) c9x8x10 = true := by kernel_rfl
theorem w9x8x6 : wayW Try.prog (XS 8) 100000 9 shS outS [0] (shV 8) c9x8x18 = true := by kernel_rfl
theorem w8x5x0 : wayW Try.prog (XS 5) 100000 8 shS outS [0] (shV 5) (rcCtx shS (preN 5) 0) = true := by kernel_rfl
theorem w9x3x0 : wayW Try.prog (XS 3) 100000 9 shS outS [0] (shV 3) (rcCtx shS (preN 3) 0) = true := by kernel_rfl
end Go.Proofs.Ytpedboeggmffnaa
