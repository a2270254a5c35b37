/- What the reference finds outside of a box: some ways. -/
import Derived.Test.YtjgkcgkhcdeadaaCd
namespace Go.Proofs.Ytjgkcgkhcdeadaa
open Go Go.SX Go.RowKit
set_option linter.unusedVariables false
set_option linter.unusedSimpArgs false
set_option maxRecDepth 100000
theorem wr1 : wayW Try.prog noPar 100000 6 shA [rowI, .num i0] (List.range 6) arT cr10 = true := by kernel_rfl
theorem wr3 : wayW Try.prog noPar 100000 6 shA [rowI, .num i0] (List.range 6) arT cr22 = true := by kernel_rfl
theorem wr5 : wayW Try.prog noPar 100000 6 shA [rowI, .num i0] (List.range 6) arT cr40 = true := by kernel_rfl
theorem wr7 : wayW Try.prog noPar 100000 6 shA [rowI, .num i0] (List.range 6) arT cr39 = true := by kernel_rfl
theorem wr9 : wayW Try.prog noPar 100000 6 shA [rowI, .num i0] (List.range 6) arT cr45 = true := by kernel_rfl
theorem wr11 : wayW Try.prog noPar 100000 6 shA [rowI, .num i0] (List.range 6) arT cr48 = true := by kernel_rfl
theorem wr13 : wayW Try.prog noPar 100000 6 shA [rowI, .num i0] (List.range 6) arT cr47 = true := by kernel_rfl
theorem wr15 : wayW Try.prog noPar 100000 6 shA [rowI, .num i0] (List.range 6) arT cr57 = true := by kernel_rfl
theorem wr17 : wayW Try.prog noPar 100000 6 shA [rowI, .num i0] (List.range 6) arT cr60 = true := by kernel_rfl
theorem wr19 : wayW Try.prog noPar 100000 6 shA [rowI, .num i0] (List.range 6) arT cr59 = true := by kernel_rfl
theorem wr21 : wayW Try.prog noPar 100000 6 shA [rowI, .num i0] (List.range 6) arT cr65 = true := by kernel_rfl
theorem wr23 : wayW Try.prog noPar 100000 6 shA [rowI, .num i0] (List.range 6) arT cr72 = true := by kernel_rfl
theorem wr25 : wayW Try.prog noPar 100000 6 shA [rowI, .num i0] (List.range 6) arT cr71 = true := by kernel_rfl
theorem wr27 : wayW Try.prog noPar 100000 6 shA [rowI, .num i0] (List.range 6) arT cr77 = true := by kernel_rfl
theorem wr29 : wayW Try.prog noPar 100000 6 shA [rowI, .num i0] (List.range 6) arT cr80 = true := by kernel_rfl
theorem wr31 : wayW Try.prog noPar 100000 6 shA [rowI, .num i0] (List.range 6) arT cr79 = true := by kernel_rfl
theorem wr33 : wayW Try.prog noPar 100000 6 shA [rowI, .num i0] (List.range 6) arT cr25 = true := by kernel_rfl
theorem wr35 : wayW Try.prog noPar 100000 6 shA [rowI, .num i0] (List.range 6) arT cr19 = true := by kernel_rfl
theorem wr37 : wayW Try.prog noPar 100000 6 shA [rowI, .num i0] (List.range 6) arT cr13 = true := by kernel_rfl
theorem wr39 : wayW Try.prog noPar 100000 6 shA [rowI, .num i0] (List.range 6) arT cr7 = true := by kernel_rfl
theorem wr41 : wayW Try.prog noPar 100000 6 shA [rowI, .num i0] (List.range 6) arT cr1 = true := by kernel_rfl
end Go.Proofs.Ytjgkcgkhcdeadaa
