/- A call of Quickest with given levels. -/
import Derived.Test.YtfkkimpcemlmcaaSw44
import Derived.Test.YtfkkimpcemlmcaaChecked
namespace Go.Proofs.Ytfkkimpcemlmcaa.packs
open Go Go.SX Go.RowKit
set_option linter.unusedVariables false
set_option maxRecDepth 100000
theorem mixKc : Try.prog.follows .mixedOrders = true := by kernel_rfl
def cC : CC := ⟨16, [[(.int .i64 (.lit (0))), (.int .i64 (.lit (0))), (.int .i64 (.lit (12))), (.int .i64 (.lit (0))), (.int .i64 (.lit (0)))]], [(.slice (some (.c 0 0)) (.lit 5) (some (.lit 5))), (.int .i64 (.lit (2))), (.int .i64 (.lit (3)))], [(.cells [(.int .i64 (.lit (-3))), (.int .i64 (.lit (-5))), (.int .i64 (.lit (4))), (.int .i64 (.lit (2)))] 3)], (.tuple [(.agg [(.slice (some (.c 0 0)) (.lit 4) (some (.lit 4))), (.int .i64 (.lit (5))), (.int .i64 (.lit (2))), (.int .i64 (.lit (2)))]), (.int .i64 (.lit (0)))])⟩
theorem cC_fits : cC.okC = true := by kernel_rfl
theorem cC_run : chkCC cC (run (callT Try.prog noPar 300000 cC.f (SV.nmL (fun i => i) cC.args) (shCtx [] [] 0)) ⟨roStore cC.ro 0, cC.ro.length, 0, [], [], true⟩) = true := by kernel_rfl
theorem cC_ok {fn : Nat → List Int → Int} (h : RowFn fn) : cC.OK Try.prog fn := CC.ok_run mixKc (noPar_ok fn h) (by kernel_rfl) cC_run
end Go.Proofs.Ytfkkimpcemlmcaa.packs
