/- The law on some ways. -/
import Derived.Test.YtjgkcgkhcdeadaaCf
namespace Go.Proofs.Ytjgkcgkhcdeadaa
open Go Go.SX Go.RowKit
set_option linter.unusedVariables false
set_option linter.unusedSimpArgs false
set_option maxRecDepth 100000
theorem yy2 : yesW Try.prog Xn 100000 3 shL cl4 = true := by kernel_rfl
theorem yy6 : yesW Try.prog Xe 100000 3 shL cl15 = true := by kernel_rfl
theorem yy10 : yesW Try.prog Xe 100000 3 shL cl23 = true := by kernel_rfl
theorem yy14 : yesW Try.prog Xe 100000 3 shL cl31 = true := by kernel_rfl
theorem yy18 : yesW Try.prog Xe 100000 3 shL cl39 = true := by kernel_rfl
theorem yy22 : yesW Try.prog Xn 100000 3 shL cl50 = true := by kernel_rfl
theorem yy26 : yesW Try.prog Xn 100000 3 shL cl62 = true := by kernel_rfl
theorem yy30 : yesW Try.prog Xn 100000 3 shL cl76 = true := by kernel_rfl
theorem yy34 : yesW Try.prog Xn 100000 3 shL cl90 = true := by kernel_rfl
theorem yy38 : yesW Try.prog Xn 100000 3 shL cl95 = true := by kernel_rfl
theorem yy42 : yesW Try.prog Xn 100000 3 shL cl75 = true := by kernel_rfl
theorem yy46 : yesW Try.prog Xn 100000 3 shL cl55 = true := by kernel_rfl
theorem yy50 : yesW Try.prog Xn 100000 3 shL cl106 = true := by kernel_rfl
theorem yy54 : yesW Try.prog Xn 100000 3 shL cl118 = true := by kernel_rfl
theorem yy58 : yesW Try.prog Xn 100000 3 shL cl132 = true := by kernel_rfl
theorem yy62 : yesW Try.prog Xn 100000 3 shL cl146 = true := by kernel_rfl
theorem yy66 : yesW Try.prog Xn 100000 3 shL cl151 = true := by kernel_rfl
theorem yy70 : yesW Try.prog Xn 100000 3 shL cl131 = true := by kernel_rfl
theorem yy74 : yesW Try.prog Xn 100000 3 shL cl111 = true := by kernel_rfl
theorem yy78 : yesW Try.prog Xn 100000 3 shL cl162 = true := by kernel_rfl
theorem yy82 : yesW Try.prog Xn 100000 3 shL cl174 = true := by kernel_rfl
theorem yy86 : yesW Try.prog Xn 100000 3 shL cl188 = true := by kernel_rfl
theorem yy90 : yesW Try.prog Xn 100000 3 shL cl202 = true := by kernel_rfl
theorem yy94 : yesW Try.prog Xn 100000 3 shL cl207 = true := by kernel_rfl
theorem yy98 : yesW Try.prog Xn 100000 3 shL cl187 = true := by kernel_rfl
theorem yy102 : yesW Try.prog Xn 100000 3 shL cl167 = true := by kernel_rfl
end Go.Proofs.Ytjgkcgkhcdeadaa
