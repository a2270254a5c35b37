/- What the program finds outside of a box: some ways. -/
import Derived.Test.YtjgkcgkhcdeadaaCd
namespace Go.Proofs.Ytjgkcgkhcdeadaa
open Go Go.SX Go.RowKit
set_option linter.unusedVariables false
set_option linter.unusedSimpArgs false
set_option maxRecDepth 100000
theorem wa0 : wayW Try.prog noPar 100000 5 shA [rowI, .num i0] (List.range 6) arT ca2 = true := by kernel_rfl
theorem wa3 : wayW Try.prog noPar 100000 5 shA [rowI, .num i0] (List.range 6) arT ca12 = true := by kernel_rfl
theorem wa6 : wayW Try.prog noPar 100000 5 shA [rowI, .num i0] (List.range 6) arT ca22 = true := by kernel_rfl
theorem wa9 : wayW Try.prog noPar 100000 5 shA [rowI, .num i0] (List.range 6) arT ca32 = true := by kernel_rfl
theorem wa12 : wayW Try.prog noPar 100000 5 shA [rowI, .num i0] (List.range 6) arT ca42 = true := by kernel_rfl
theorem wa15 : wayW Try.prog noPar 100000 5 shA [rowI, .num i0] (List.range 6) arT ca54 = true := by kernel_rfl
theorem wa18 : wayW Try.prog noPar 100000 5 shA [rowI, .num i0] (List.range 6) arT ca82 = true := by kernel_rfl
theorem wa21 : wayW Try.prog noPar 100000 5 shA [rowI, .num i0] (List.range 6) arT ca86 = true := by kernel_rfl
theorem wa24 : wayW Try.prog noPar 100000 5 shA [rowI, .num i0] (List.range 6) arT ca90 = true := by kernel_rfl
theorem wa27 : wayW Try.prog noPar 100000 5 shA [rowI, .num i0] (List.range 6) arT ca98 = true := by kernel_rfl
theorem wa30 : wayW Try.prog noPar 100000 5 shA [rowI, .num i0] (List.range 6) arT ca102 = true := by kernel_rfl
theorem wa33 : wayW Try.prog noPar 100000 5 shA [rowI, .num i0] (List.range 6) arT ca106 = true := by kernel_rfl
theorem wa36 : wayW Try.prog noPar 100000 5 shA [rowI, .num i0] (List.range 6) arT ca114 = true := by kernel_rfl
theorem wa39 : wayW Try.prog noPar 100000 5 shA [rowI, .num i0] (List.range 6) arT ca118 = true := by kernel_rfl
theorem wa42 : wayW Try.prog noPar 100000 5 shA [rowI, .num i0] (List.range 6) arT ca122 = true := by kernel_rfl
theorem wa45 : wayW Try.prog noPar 100000 5 shA [rowI, .num i0] (List.range 6) arT ca71 = true := by kernel_rfl
theorem wa48 : wayW Try.prog noPar 100000 5 shA [rowI, .num i0] (List.range 6) arT ca63 = true := by kernel_rfl
theorem wa51 : wayW Try.prog noPar 100000 5 shA [rowI, .num i0] (List.range 6) arT ca53 = true := by kernel_rfl
theorem wa54 : wayW Try.prog noPar 100000 5 shA [rowI, .num i0] (List.range 6) arT ca41 = true := by kernel_rfl
theorem wa57 : wayW Try.prog noPar 100000 5 shA [rowI, .num i0] (List.range 6) arT ca25 = true := by kernel_rfl
theorem wa60 : wayW Try.prog noPar 100000 5 shA [rowI, .num i0] (List.range 6) arT ca11 = true := by kernel_rfl
end Go.Proofs.Ytjgkcgkhcdeadaa
