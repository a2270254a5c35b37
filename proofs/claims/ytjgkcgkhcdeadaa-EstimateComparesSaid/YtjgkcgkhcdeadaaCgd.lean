/- The law on some ways. -/
import Derived.Test.YtjgkcgkhcdeadaaCf
namespace Go.Proofs.Ytjgkcgkhcdeadaa
open Go Go.SX Go.RowKit
set_option linter.unusedVariables false
set_option linter.unusedSimpArgs false
set_option maxRecDepth 100000
theorem yy3 : yesW Try.prog Xn 100000 3 shL cl6 = true := by kernel_rfl
theorem yy7 : yesW Try.prog Xe 100000 3 shL cl17 = true := by kernel_rfl
theorem yy11 : yesW Try.prog Xe 100000 3 shL cl25 = true := by kernel_rfl
theorem yy15 : yesW Try.prog Xe 100000 3 shL cl33 = true := by kernel_rfl
theorem yy19 : yesW Try.prog Xe 100000 3 shL cl41 = true := by kernel_rfl
theorem yy23 : yesW Try.prog Xn 100000 3 shL cl52 = true := by kernel_rfl
theorem yy27 : yesW Try.prog Xn 100000 3 shL cl66 = true := by kernel_rfl
theorem yy31 : yesW Try.prog Xn 100000 3 shL cl80 = true := by kernel_rfl
theorem yy35 : yesW Try.prog Xn 100000 3 shL cl92 = true := by kernel_rfl
theorem yy39 : yesW Try.prog Xn 100000 3 shL cl89 = true := by kernel_rfl
theorem yy43 : yesW Try.prog Xn 100000 3 shL cl69 = true := by kernel_rfl
theorem yy47 : yesW Try.prog Xn 100000 3 shL cl49 = true := by kernel_rfl
theorem yy51 : yesW Try.prog Xn 100000 3 shL cl108 = true := by kernel_rfl
theorem yy55 : yesW Try.prog Xn 100000 3 shL cl122 = true := by kernel_rfl
theorem yy59 : yesW Try.prog Xn 100000 3 shL cl136 = true := by kernel_rfl
theorem yy63 : yesW Try.prog Xn 100000 3 shL cl148 = true := by kernel_rfl
theorem yy67 : yesW Try.prog Xn 100000 3 shL cl145 = true := by kernel_rfl
theorem yy71 : yesW Try.prog Xn 100000 3 shL cl125 = true := by kernel_rfl
theorem yy75 : yesW Try.prog Xn 100000 3 shL cl105 = true := by kernel_rfl
theorem yy79 : yesW Try.prog Xn 100000 3 shL cl164 = true := by kernel_rfl
theorem yy83 : yesW Try.prog Xn 100000 3 shL cl178 = true := by kernel_rfl
theorem yy87 : yesW Try.prog Xn 100000 3 shL cl192 = true := by kernel_rfl
theorem yy91 : yesW Try.prog Xn 100000 3 shL cl204 = true := by kernel_rfl
theorem yy95 : yesW Try.prog Xn 100000 3 shL cl201 = true := by kernel_rfl
theorem yy99 : yesW Try.prog Xn 100000 3 shL cl181 = true := by kernel_rfl
theorem yy103 : yesW Try.prog Xn 100000 3 shL cl161 = true := by kernel_rfl
end Go.Proofs.Ytjgkcgkhcdeadaa
