/- A call of Fewest with other bounds. -/
import Derived.Test.YtfkkimpcemlmcaaSw44
import Derived.Test.YtfkkimpcemlmcaaChecked
namespace Go.Proofs.Ytfkkimpcemlmcaa.packs
open Go Go.SX Go.RowKit
set_option linter.unusedVariables false
set_option maxRecDepth 100000
theorem mixKb : Try.prog.follows .mixedOrders = true := by kernel_rfl
def cB : CC := ⟨15, [[(.int .i64 (.lit (8))), (.int .i64 (.lit (0))), (.int .i64 (.lit (4)))]], [(.slice (some (.c 0 0)) (.lit 3) (some (.lit 3))), (.int .i64 (.lit (4))), (.int .i64 (.lit (4)))], [(.cells [(.int .i64 (.lit (4))), (.int .i64 (.lit (0)))] 3), (.cells [(.int .i64 (.lit (-15))), (.int .i64 (.lit (-16))), (.int .i64 (.lit (-16)))] 3)], (.tuple [(.agg [(.slice (some (.c 0 0)) (.lit 2) (some (.lit 2))), (.int .i64 (.lit (4))), (.slice (some (.c 1 0)) (.lit 3) (some (.lit 3)))]), (.int .i64 (.lit (0)))])⟩
theorem cB_fits : cB.okC = true := by kernel_rfl
theorem cB_run : chkCC cB (run (callT Try.prog noPar 300000 cB.f (SV.nmL (fun i => i) cB.args) (shCtx [] [] 0)) ⟨roStore cB.ro 0, cB.ro.length, 0, [], [], true⟩) = true := by kernel_rfl
theorem cB_ok {fn : Nat → List Int → Int} (h : RowFn fn) : cB.OK Try.prog fn := CC.ok_run mixKb (noPar_ok fn h) (by kernel_rfl) cB_run
end Go.Proofs.Ytfkkimpcemlmcaa.packs
