/- What the program finds outside of a box: some ways. -/
import Derived.Test.YtjgkcgkhcdeadaaCd
namespace Go.Proofs.Ytjgkcgkhcdeadaa
open Go Go.SX Go.RowKit
set_option linter.unusedVariables false
set_option linter.unusedSimpArgs false
set_option maxRecDepth 100000
theorem wa2 : wayW Try.prog noPar 100000 5 shA [rowI, .num i0] (List.range 6) arT ca8 = true := by kernel_rfl
theorem wa5 : wayW Try.prog noPar 100000 5 shA [rowI, .num i0] (List.range 6) arT ca18 = true := by kernel_rfl
theorem wa8 : wayW Try.prog noPar 100000 5 shA [rowI, .num i0] (List.range 6) arT ca28 = true := by kernel_rfl
theorem wa11 : wayW Try.prog noPar 100000 5 shA [rowI, .num i0] (List.range 6) arT ca38 = true := by kernel_rfl
theorem wa14 : wayW Try.prog noPar 100000 5 shA [rowI, .num i0] (List.range 6) arT ca48 = true := by kernel_rfl
theorem wa17 : wayW Try.prog noPar 100000 5 shA [rowI, .num i0] (List.range 6) arT ca66 = true := by kernel_rfl
theorem wa20 : wayW Try.prog noPar 100000 5 shA [rowI, .num i0] (List.range 6) arT ca81 = true := by kernel_rfl
theorem wa23 : wayW Try.prog noPar 100000 5 shA [rowI, .num i0] (List.range 6) arT ca85 = true := by kernel_rfl
theorem wa26 : wayW Try.prog noPar 100000 5 shA [rowI, .num i0] (List.range 6) arT ca89 = true := by kernel_rfl
theorem wa29 : wayW Try.prog noPar 100000 5 shA [rowI, .num i0] (List.range 6) arT ca97 = true := by kernel_rfl
theorem wa32 : wayW Try.prog noPar 100000 5 shA [rowI, .num i0] (List.range 6) arT ca101 = true := by kernel_rfl
theorem wa35 : wayW Try.prog noPar 100000 5 shA [rowI, .num i0] (List.range 6) arT ca105 = true := by kernel_rfl
theorem wa38 : wayW Try.prog noPar 100000 5 shA [rowI, .num i0] (List.range 6) arT ca113 = true := by kernel_rfl
theorem wa41 : wayW Try.prog noPar 100000 5 shA [rowI, .num i0] (List.range 6) arT ca117 = true := by kernel_rfl
theorem wa44 : wayW Try.prog noPar 100000 5 shA [rowI, .num i0] (List.range 6) arT ca121 = true := by kernel_rfl
theorem wa47 : wayW Try.prog noPar 100000 5 shA [rowI, .num i0] (List.range 6) arT ca65 = true := by kernel_rfl
theorem wa50 : wayW Try.prog noPar 100000 5 shA [rowI, .num i0] (List.range 6) arT ca57 = true := by kernel_rfl
theorem wa53 : wayW Try.prog noPar 100000 5 shA [rowI, .num i0] (List.range 6) arT ca45 = true := by kernel_rfl
theorem wa56 : wayW Try.prog noPar 100000 5 shA [rowI, .num i0] (List.range 6) arT ca31 = true := by kernel_rfl
theorem wa59 : wayW Try.prog noPar 100000 5 shA [rowI, .num i0] (List.range 6) arT ca15 = true := by kernel_rfl
theorem wa62 : wayW Try.prog noPar 100000 5 shA [rowI, .num i0] (List.range 6) arT ca1 = true := by kernel_rfl
end Go.Proofs.Ytjgkcgkhcdeadaa
