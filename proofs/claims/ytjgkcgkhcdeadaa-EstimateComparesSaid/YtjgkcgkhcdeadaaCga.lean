/- The law on some ways. -/
import Derived.Test.YtjgkcgkhcdeadaaCf
namespace Go.Proofs.Ytjgkcgkhcdeadaa
open Go Go.SX Go.RowKit
set_option linter.unusedVariables false
set_option linter.unusedSimpArgs false
set_option maxRecDepth 100000
theorem yy0 : yesW Try.prog Xn 100000 3 shL cl0 = true := by kernel_rfl
theorem yy4 : yesW Try.prog Xn 100000 3 shL cl8 = true := by kernel_rfl
theorem yy8 : yesW Try.prog Xe 100000 3 shL cl19 = true := by kernel_rfl
theorem yy12 : yesW Try.prog Xe 100000 3 shL cl27 = true := by kernel_rfl
theorem yy16 : yesW Try.prog Xe 100000 3 shL cl35 = true := by kernel_rfl
theorem yy20 : yesW Try.prog Xe 100000 3 shL cl40 = true := by kernel_rfl
theorem yy24 : yesW Try.prog Xn 100000 3 shL cl56 = true := by kernel_rfl
theorem yy28 : yesW Try.prog Xn 100000 3 shL cl70 = true := by kernel_rfl
theorem yy32 : yesW Try.prog Xn 100000 3 shL cl82 = true := by kernel_rfl
theorem yy36 : yesW Try.prog Xn 100000 3 shL cl96 = true := by kernel_rfl
theorem yy40 : yesW Try.prog Xn 100000 3 shL cl85 = true := by kernel_rfl
theorem yy44 : yesW Try.prog Xn 100000 3 shL cl65 = true := by kernel_rfl
theorem yy48 : yesW Try.prog Xn 100000 3 shL cl45 = true := by kernel_rfl
theorem yy52 : yesW Try.prog Xn 100000 3 shL cl112 = true := by kernel_rfl
theorem yy56 : yesW Try.prog Xn 100000 3 shL cl126 = true := by kernel_rfl
theorem yy60 : yesW Try.prog Xn 100000 3 shL cl138 = true := by kernel_rfl
theorem yy64 : yesW Try.prog Xn 100000 3 shL cl152 = true := by kernel_rfl
theorem yy68 : yesW Try.prog Xn 100000 3 shL cl141 = true := by kernel_rfl
theorem yy72 : yesW Try.prog Xn 100000 3 shL cl121 = true := by kernel_rfl
theorem yy76 : yesW Try.prog Xn 100000 3 shL cl101 = true := by kernel_rfl
theorem yy80 : yesW Try.prog Xn 100000 3 shL cl168 = true := by kernel_rfl
theorem yy84 : yesW Try.prog Xn 100000 3 shL cl182 = true := by kernel_rfl
theorem yy88 : yesW Try.prog Xn 100000 3 shL cl194 = true := by kernel_rfl
theorem yy92 : yesW Try.prog Xn 100000 3 shL cl208 = true := by kernel_rfl
theorem yy96 : yesW Try.prog Xn 100000 3 shL cl197 = true := by kernel_rfl
theorem yy100 : yesW Try.prog Xn 100000 3 shL cl177 = true := by kernel_rfl
theorem yy104 : yesW Try.prog Xn 100000 3 shL cl157 = true := by kernel_rfl
end Go.Proofs.Ytjgkcgkhcdeadaa
