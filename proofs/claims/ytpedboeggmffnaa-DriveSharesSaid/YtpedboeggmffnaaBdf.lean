/- Shares on some ways. -/
import Derived.Test.YtpedboeggmffnaaBc
namespace Go.Proofs.Ytpedboeggmffnaa
open Go Go.SX Go.RowKit
set_option linter.unusedVariables false
set_option linter.unusedSimpArgs false
set_option maxRecDepth 100000
theorem w8x7x3 : wayW Try.prog (XS 7) 100000 8 shS outS [0] (shV 7) c8x7x6 = true := by kernel_rfl
theorem w8x8x4 : wayW Try.prog (XS 8) 100000 8 shS outS [0] (shV 8) c8x8x10 = true := by kernel_rfl
theorem w8x8x10 : wayW Try.prog (XS 8) 100000 8 shS outS [0] (shV 8) c8x8x19 = true := by kernel_rfl
theorem w9x7x2 : wayW Try.prog (XS 7) 100000 9 shS outS [0] (shV 7) c9x7x5 = true := by kernel_rfl
theorem w9x8x2 : wayW Try.prog (XS 8) 100000 9 shS outS [0] (shV 8) c9x8x9 = true := by kernel_rfl
theorem w9x8x8 : wayW Try.prog (XS 8) 100000 9 shS outS [0] (shV 8) c9x8x17 = true := by kernel_rfl
theorem w8x4x0 : wayW Try.prog (XS 4) 100000 8 shS outS [0] (shV 4) (rcCtx shS (preN 4) 0) = true := by kernel_rfl
theorem w9x4x0 : wayW Try.prog (XS 4) 100000 9 shS outS [0] (shV 4) (rcCtx shS (preN 4) 0) = true := by kernel_rfl
theorem w8x3x0 : wayW Try.prog (XS 3) 100000 8 shS outS [0] (shV 3) (rcCtx shS (preN 3) 0) = true := by kernel_rfl
theorem w9x2x0 : wayW Try.prog (XS 2) 100000 9 shS outS [0] (shV 2) (rcCtx shS (preN 2) 0) = true := by kernel_rfl
theorem w9x1x0 : wayW Try.prog (XS 1) 100000 9 shS outS [0] (shV 1) (rcCtx shS (preN 1) 0) = true := by kernel_rfl
end Go.Proofs.Ytpedboeggmffnaa
