/- What the program finds outside of a box: some ways. -/
import Derived.Test.YtjgkcgkhcdeadaaCd
namespace Go.Proofs.Ytjgkcgkhcdeadaa
open Go Go.SX Go.RowKit
set_option linter.unusedVariables false
set_option linter.unusedSimpArgs false
set_option maxRecDepth 100000
theorem wa1 : wayW Try.prog noPar 100000 5 shA [rowI, .num i0] (List.range 6) arT ca6 = true := by kernel_rfl
theorem wa4 : wayW Try.prog noPar 100000 5 shA [rowI, .num i0] (List.range 6) arT ca16 = true := by kernel_rfl
theorem wa7 : wayW Try.prog noPar 100000 5 shA [rowI, .num i0] (List.range 6) arT ca26 = true := by kernel_rfl
theorem wa10 : wayW Try.prog noPar 100000 5 shA [rowI, .num i0] (List.range 6) arT ca36 = true := by kernel_rfl
theorem wa13 : wayW Try.prog noPar 100000 5 shA [rowI, .num i0] (List.range 6) arT ca46 = true := by kernel_rfl
theorem wa16 : wayW Try.prog noPar 100000 5 shA [rowI, .num i0] (List.range 6) arT ca60 = true := by kernel_rfl
theorem wa19 : wayW Try.prog noPar 100000 5 shA [rowI, .num i0] (List.range 6) arT ca83 = true := by kernel_rfl
theorem wa22 : wayW Try.prog noPar 100000 5 shA [rowI, .num i0] (List.range 6) arT ca87 = true := by kernel_rfl
theorem wa25 : wayW Try.prog noPar 100000 5 shA [rowI, .num i0] (List.range 6) arT ca91 = true := by kernel_rfl
theorem wa28 : wayW Try.prog noPar 100000 5 shA [rowI, .num i0] (List.range 6) arT ca99 = true := by kernel_rfl
theorem wa31 : wayW Try.prog noPar 100000 5 shA [rowI, .num i0] (List.range 6) arT ca103 = true := by kernel_rfl
theorem wa34 : wayW Try.prog noPar 100000 5 shA [rowI, .num i0] (List.range 6) arT ca107 = true := by kernel_rfl
theorem wa37 : wayW Try.prog noPar 100000 5 shA [rowI, .num i0] (List.range 6) arT ca115 = true := by kernel_rfl
theorem wa40 : wayW Try.prog noPar 100000 5 shA [rowI, .num i0] (List.range 6) arT ca119 = true := by kernel_rfl
theorem wa43 : wayW Try.prog noPar 100000 5 shA [rowI, .num i0] (List.range 6) arT ca123 = true := by kernel_rfl
theorem wa46 : wayW Try.prog noPar 100000 5 shA [rowI, .num i0] (List.range 6) arT ca69 = true := by kernel_rfl
theorem wa49 : wayW Try.prog noPar 100000 5 shA [rowI, .num i0] (List.range 6) arT ca59 = true := by kernel_rfl
theorem wa52 : wayW Try.prog noPar 100000 5 shA [rowI, .num i0] (List.range 6) arT ca51 = true := by kernel_rfl
theorem wa55 : wayW Try.prog noPar 100000 5 shA [rowI, .num i0] (List.range 6) arT ca35 = true := by kernel_rfl
theorem wa58 : wayW Try.prog noPar 100000 5 shA [rowI, .num i0] (List.range 6) arT ca21 = true := by kernel_rfl
theorem wa61 : wayW Try.prog noPar 100000 5 shA [rowI, .num i0] (List.range 6) arT ca5 = true := by kernel_rfl
end Go.Proofs.Ytjgkcgkhcdeadaa
