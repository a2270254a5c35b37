/- Shares on some ways. -/
import Derived.Test.YtpedboeggmffnaaBc
namespace Go.Proofs.Ytpedboeggmffnaa
open Go Go.SX Go.RowKit
set_option linter.unusedVariables false
set_option linter.unusedSimpArgs false
set_option maxRecDepth 100000
theorem w8x6x1 : wayW Try.prog (XS 6) 100000 8 shS outS [0] (shV 6) c8x6x1 = true := by kernel_rfl
theorem w8x8x0 : wayW Try.prog (XS 8) 100000 8 shS outS [0] (shV 8) c8x8x2 = true := by kernel_rfl
theorem w8x8x6 : wayW Try.prog (XS 8) 100000 8 shS outS [0] (shV 8) c8x8x14 = true := by kernel_rfl
theorem w9x6x1 : wayW Try.prog (XS 6) 100000 9 shS outS [0] (shV 6) c9x6x3 = true := by kernel_rfl
theorem w9x7x4 : wayW Try.prog (XS 7) 100000 9 shS outS [0] (shV 7) c9x7x9 = true := by kernel_rfl
theorem w9x8x4 : wayW Try.prog (XS 8) 100000 9 shS outS [0] (shV 8) c9x8x13 = true := by kernel_rfl
theorem w9x8x10 : wayW Try.prog (XS 8) 100000 9 shS outS [0] (shV 8) c9x8x21 = true := by kernel_rfl
end Go.Proofs.Ytpedboeggmffnaa
