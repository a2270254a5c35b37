/- Shares on some ways. -/
import Derived.Test.YtpedboeggmffnaaBc
namespace Go.Proofs.Ytpedboeggmffnaa
open Go Go.SX Go.RowKit
set_option linter.unusedVariables false
set_option linter.unusedSimpArgs false
set_option maxRecDepth 100000
theorem w8x6x0 : wayW Try.prog (XS 6) 100000 8 shS outS [0] (shV 6) c8x6x0 = true := by kernel_rfl
theorem w8x7x4 : wayW Try.prog (XS 7) 100000 8 shS outS [0] (shV 7) c8x7x7 = true := by kernel_rfl
theorem w8x8x5 : wayW Try.prog (XS 8) 100000 8 shS outS [0] (shV 8) c8x8x11 = true := by kernel_rfl
theorem w9x6x0 : wayW Try.prog (XS 6) 100000 9 shS outS [0] (shV 6) c9x6x2 = true := by kernel_rfl
theorem w9x7x3 : wayW Try.prog (XS 7) 100000 9 shS outS [0] (shV 7) c9x7x8 = true := by kernel_rfl
theorem w9x8x3 : wayW Try.prog (XS 8) 100000 9 shS outS [0] (shV 8) c9x8x12 = true := by kernel_rfl
theorem w9x8x9 : wayW Try.prog (XS 8) 100000 9 shS outS [0] (shV 8) c9x8x20 = true := by kernel_rfl
end Go.Proofs.Ytpedboeggmffnaa
