/- A call of Fewest with given levels. -/
import Derived.Test.YtfkkimpcemlmcaaSw44
import Derived.Test.YtfkkimpcemlmcaaChecked
namespace Go.Proofs.Ytfkkimpcemlmcaa.packs
open Go Go.SX Go.RowKit
set_option linter.unusedVariables false
set_option maxRecDepth 100000
theorem mixKa : Try.prog.follows .mixedOrders = true := by kernel_rfl
def cA : CC := ⟨15, [[(.int .i64 (.lit (8))), (.int .i64 (.lit (0))), (.int .i64 (.lit (4)))]], [(.slice (some (.c 0 0)) (.lit 3) (some (.lit 3))), (.int .i64 (.lit (3))), (.int .i64 (.lit (5)))], [(.cells [(.int .i64 (.lit (3))), (.int .i64 (.lit (0)))] 3), (.cells [(.int .i64 (.lit (0))), (.int .i64 (.lit (-1))), (.int .i64 (.lit (0)))] 3)], (.tuple [(.agg [(.slice (some (.c 0 0)) (.lit 2) (some (.lit 2))), (.int .i64 (.lit (3))), (.slice (some (.c 1 0)) (.lit 3) (some (.lit 3)))]), (.int .i64 (.lit (0)))])⟩
theorem cA_fits : cA.okC = true := by kernel_rfl
theorem cA_run : chkCC cA (run (callT Try.prog noPar 300000 cA.f (SV.nmL (fun i => i) cA.args) (shCtx [] [] 0)) ⟨roStore cA.ro 0, cA.ro.length, 0, [], [], true⟩) = true := by kernel_rfl
theorem cA_ok {fn : Nat → List Int → Int} (h : RowFn fn) : cA.OK Try.prog fn := CC.ok_run mixKa (noPar_ok fn h) (by kernel_rfl) cA_run
end Go.Proofs.Ytfkkimpcemlmcaa.packs
