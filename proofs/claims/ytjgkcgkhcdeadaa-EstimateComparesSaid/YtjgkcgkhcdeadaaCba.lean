/- What the reference finds outside of a box: some ways. -/
import Derived.Test.YtjgkcgkhcdeadaaCd
namespace Go.Proofs.Ytjgkcgkhcdeadaa
open Go Go.SX Go.RowKit
set_option linter.unusedVariables false
set_option linter.unusedSimpArgs false
set_option maxRecDepth 100000
theorem wr0 : wayW Try.prog noPar 100000 6 shA [rowI, .num i0] (List.range 6) arT cr4 = true := by kernel_rfl
theorem wr2 : wayW Try.prog noPar 100000 6 shA [rowI, .num i0] (List.range 6) arT cr16 = true := by kernel_rfl
theorem wr4 : wayW Try.prog noPar 100000 6 shA [rowI, .num i0] (List.range 6) arT cr28 = true := by kernel_rfl
theorem wr6 : wayW Try.prog noPar 100000 6 shA [rowI, .num i0] (List.range 6) arT cr41 = true := by kernel_rfl
theorem wr8 : wayW Try.prog noPar 100000 6 shA [rowI, .num i0] (List.range 6) arT cr44 = true := by kernel_rfl
theorem wr10 : wayW Try.prog noPar 100000 6 shA [rowI, .num i0] (List.range 6) arT cr43 = true := by kernel_rfl
theorem wr12 : wayW Try.prog noPar 100000 6 shA [rowI, .num i0] (List.range 6) arT cr49 = true := by kernel_rfl
theorem wr14 : wayW Try.prog noPar 100000 6 shA [rowI, .num i0] (List.range 6) arT cr56 = true := by kernel_rfl
theorem wr16 : wayW Try.prog noPar 100000 6 shA [rowI, .num i0] (List.range 6) arT cr55 = true := by kernel_rfl
theorem wr18 : wayW Try.prog noPar 100000 6 shA [rowI, .num i0] (List.range 6) arT cr61 = true := by kernel_rfl
theorem wr20 : wayW Try.prog noPar 100000 6 shA [rowI, .num i0] (List.range 6) arT cr64 = true := by kernel_rfl
theorem wr22 : wayW Try.prog noPar 100000 6 shA [rowI, .num i0] (List.range 6) arT cr63 = true := by kernel_rfl
theorem wr24 : wayW Try.prog noPar 100000 6 shA [rowI, .num i0] (List.range 6) arT cr73 = true := by kernel_rfl
theorem wr26 : wayW Try.prog noPar 100000 6 shA [rowI, .num i0] (List.range 6) arT cr76 = true := by kernel_rfl
theorem wr28 : wayW Try.prog noPar 100000 6 shA [rowI, .num i0] (List.range 6) arT cr75 = true := by kernel_rfl
theorem wr30 : wayW Try.prog noPar 100000 6 shA [rowI, .num i0] (List.range 6) arT cr81 = true := by kernel_rfl
theorem wr32 : wayW Try.prog noPar 100000 6 shA [rowI, .num i0] (List.range 6) arT cr27 = true := by kernel_rfl
theorem wr34 : wayW Try.prog noPar 100000 6 shA [rowI, .num i0] (List.range 6) arT cr21 = true := by kernel_rfl
theorem wr36 : wayW Try.prog noPar 100000 6 shA [rowI, .num i0] (List.range 6) arT cr15 = true := by kernel_rfl
theorem wr38 : wayW Try.prog noPar 100000 6 shA [rowI, .num i0] (List.range 6) arT cr9 = true := by kernel_rfl
theorem wr40 : wayW Try.prog noPar 100000 6 shA [rowI, .num i0] (List.range 6) arT cr3 = true := by kernel_rfl
end Go.Proofs.Ytjgkcgkhcdeadaa
