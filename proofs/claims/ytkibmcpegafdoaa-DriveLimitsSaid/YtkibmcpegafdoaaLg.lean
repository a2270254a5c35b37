/- What the law DriveLimits goes by. -/
import Derived.Test.YtkibmcpegafdoaaLb
import Derived.Test.YtkibmcpegafdoaaLc
import Derived.Test.YtkibmcpegafdoaaLe
import Derived.Test.YtkibmcpegafdoaaLf
namespace Go.Proofs.Ytkibmcpegafdoaa
open Go Go.SX Go.RowKit DR
set_option linter.unusedVariables false
set_option linter.unusedSimpArgs false
set_option maxRecDepth 100000
def Xl : Par := knFC.par ((pairRC 19 alSh [] formAl 140 []).par ((pairRC 20 alSh [] formAl 140 []).par ((pairRC 21 hoSh [] formHo 150 []).par ((pairRC 22 hoSh [] formHo 150 []).par ((roG 17).par ((roG 18).par Xf))))))
theorem Xl_ok {fn : Nat → List Int → Int} (h : GoodR fn) : ParOK Try.prog fn Xl := by
  obtain ⟨b, h1, h2, h3⟩ := goodR h
  exact FC.parOK (kn_ok b.l) rfl (RC.parOK (al19_ok b h1 h2) rfl (RC.parOK (al20_ok b h1 h2) rfl (RC.parOK (ho21_ok b h1 h3) rfl (RC.parOK (ho22_ok b h1 h3) rfl (FC.parOK (ro17_ok b.l h1) rfl (FC.parOK (ro18_ok b.l h1) rfl (Xf_ok b.l)))))))
end Go.Proofs.Ytkibmcpegafdoaa
