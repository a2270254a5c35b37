/- What the program finds apart: some ways. -/
import Derived.Test.YtndahgbmdifolaaVc
namespace Go.Proofs.Ytndahgbmdifolaa
open Go Go.SX Go.RowKit
set_option linter.unusedVariables false
set_option linter.unusedSimpArgs false
set_option maxRecDepth 100000
theorem w0 : wayW Try.prog (Xj [60] jdA) 100000 36 shS1 o3 (List.range 43) ap37T (assumeJ 50 (assumeJ 50 (assumeJ 50 (rcCtx shS1 [] 1) (.tst (.var 40)) true) (.tst (.var 41)) true) (.tst (.var 42)) true) = true := by kernel_rfl
theorem w4 : wayW Try.prog (Xj [60] jdA) 100000 36 shS1 o3 (List.range 43) ap37T (assumeJ 50 (assumeJ 50 (assumeJ 50 (assumeJ 50 (assumeJ 50 (rcCtx shS1 [] 1) (.tst (.var 40)) true) (.tst (.var 41)) false) (.tst (.var 28)) true) (.tst (.var 42)) false) (.tst (.var 34)) true) = true := by kernel_rfl
theorem w8 : wayW Try.prog (Xj [60] jdA) 100000 36 shS1 o3 (List.range 43) ap37T (assumeJ 50 (assumeJ 50 (assumeJ 50 (assumeJ 50 (assumeJ 50 (rcCtx shS1 [] 1) (.tst (.var 40)) true) (.tst (.var 41)) false) (.tst (.var 28)) false) (.tst (.var 42)) false) (.tst (.var 34)) false) = true := by kernel_rfl
theorem w12 : wayW Try.prog (Xj [60] jdA) 100000 36 shS1 o3 (List.range 43) ap37T (assumeJ 50 (assumeJ 50 (assumeJ 50 (assumeJ 50 (assumeJ 50 (rcCtx shS1 [] 1) (.tst (.var 40)) false) (.tst (.var 22)) true) (.tst (.var 41)) false) (.tst (.var 28)) true) (.tst (.var 42)) true) = true := by kernel_rfl
theorem w16 : wayW Try.prog (Xj [60] jdA) 100000 36 shS1 o3 (List.range 43) ap37T (assumeJ 50 (assumeJ 50 (assumeJ 50 (assumeJ 50 (assumeJ 50 (assumeJ 50 (rcCtx shS1 [] 1) (.tst (.var 40)) false) (.tst (.var 22)) true) (.tst (.var 41)) false) (.tst (.var 28)) false) (.tst (.var 42)) false) (.tst (.var 34)) true) = true := by kernel_rfl
theorem w20 : wayW Try.prog (Xj [60] jdA) 100000 36 shS1 o3 (List.range 43) ap37T (assumeJ 50 (assumeJ 50 (assumeJ 50 (assumeJ 50 (assumeJ 50 (rcCtx shS1 [] 1) (.tst (.var 40)) false) (.tst (.var 22)) false) (.tst (.var 41)) true) (.tst (.var 42)) false) (.tst (.var 34)) false) = true := by kernel_rfl
theorem w24 : wayW Try.prog (Xj [60] jdA) 100000 36 shS1 o3 (List.range 43) ap37T (assumeJ 50 (assumeJ 50 (assumeJ 50 (assumeJ 50 (assumeJ 50 (rcCtx shS1 [] 1) (.tst (.var 40)) false) (.tst (.var 22)) false) (.tst (.var 41)) false) (.tst (.var 28)) false) (.tst (.var 42)) true) = true := by kernel_rfl
end Go.Proofs.Ytndahgbmdifolaa
