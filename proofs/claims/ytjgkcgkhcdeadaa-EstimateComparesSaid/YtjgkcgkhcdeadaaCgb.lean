/- The law on some ways. -/
import Derived.Test.YtjgkcgkhcdeadaaCf
namespace Go.Proofs.Ytjgkcgkhcdeadaa
open Go Go.SX Go.RowKit
set_option linter.unusedVariables false
set_option linter.unusedSimpArgs false
set_option maxRecDepth 100000
theorem yy1 : yesW Try.prog Xn 100000 3 shL cl2 = true := by kernel_rfl
theorem yy5 : yesW Try.prog Xe 100000 3 shL cl13 = true := by kernel_rfl
theorem yy9 : yesW Try.prog Xe 100000 3 shL cl21 = true := by kernel_rfl
theorem yy13 : yesW Try.prog Xe 100000 3 shL cl29 = true := by kernel_rfl
theorem yy17 : yesW Try.prog Xe 100000 3 shL cl37 = true := by kernel_rfl
theorem yy21 : yesW Try.prog Xn 100000 3 shL cl46 = true := by kernel_rfl
theorem yy25 : yesW Try.prog Xn 100000 3 shL cl60 = true := by kernel_rfl
theorem yy29 : yesW Try.prog Xn 100000 3 shL cl72 = true := by kernel_rfl
theorem yy33 : yesW Try.prog Xn 100000 3 shL cl86 = true := by kernel_rfl
theorem yy37 : yesW Try.prog Xn 100000 3 shL cl97 = true := by kernel_rfl
theorem yy41 : yesW Try.prog Xn 100000 3 shL cl79 = true := by kernel_rfl
theorem yy45 : yesW Try.prog Xn 100000 3 shL cl59 = true := by kernel_rfl
theorem yy49 : yesW Try.prog Xn 100000 3 shL cl102 = true := by kernel_rfl
theorem yy53 : yesW Try.prog Xn 100000 3 shL cl116 = true := by kernel_rfl
theorem yy57 : yesW Try.prog Xn 100000 3 shL cl128 = true := by kernel_rfl
theorem yy61 : yesW Try.prog Xn 100000 3 shL cl142 = true := by kernel_rfl
theorem yy65 : yesW Try.prog Xn 100000 3 shL cl153 = true := by kernel_rfl
theorem yy69 : yesW Try.prog Xn 100000 3 shL cl135 = true := by kernel_rfl
theorem yy73 : yesW Try.prog Xn 100000 3 shL cl115 = true := by kernel_rfl
theorem yy77 : yesW Try.prog Xn 100000 3 shL cl158 = true := by kernel_rfl
theorem yy81 : yesW Try.prog Xn 100000 3 shL cl172 = true := by kernel_rfl
theorem yy85 : yesW Try.prog Xn 100000 3 shL cl184 = true := by kernel_rfl
theorem yy89 : yesW Try.prog Xn 100000 3 shL cl198 = true := by kernel_rfl
theorem yy93 : yesW Try.prog Xn 100000 3 shL cl209 = true := by kernel_rfl
theorem yy97 : yesW Try.prog Xn 100000 3 shL cl191 = true := by kernel_rfl
theorem yy101 : yesW Try.prog Xn 100000 3 shL cl171 = true := by kernel_rfl
theorem yy105 : yesW Try.prog Xn 100000 3 shL cl155 = true := by kernel_rfl
end Go.Proofs.Ytjgkcgkhcdeadaa
