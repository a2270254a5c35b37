/- What the law ProtectVotes goes by. -/
import Derived.Test.YtndahgbmdifolaaVd1
import Derived.Test.YtndahgbmdifolaaVd2
import Derived.Test.YtndahgbmdifolaaVd3
import Derived.Test.YtndahgbmdifolaaVd4
namespace Go.Proofs.Ytndahgbmdifolaa
open Go Go.SX Go.RowKit
set_option linter.unusedVariables false
set_option linter.unusedSimpArgs false
set_option maxRecDepth 100000
set_option maxRecDepth 100000 in
theorem works_vt : (run (callT Try.prog noPar 100000 16 (symAll [] 0) (ctxF [] [] 1)) st0).vt = .leaf (.bool (.lit true)) := by kernel_rfl
theorem wk_ok {fn : Nat → List Int → Int} (h : Good fn) : (wkF 16).OK Try.prog fn := by
  refine FC.ok_eqv (X := noPar) (d := 1) (n := 100000) (t := .leaf (.bool (.lit true))) mixV (noPar_ok fn h.rows) rfl (by kernel_rfl) works_vt fun r hw _ => ⟨by simp [wkF], by simp [wkF], ?_⟩
  exact rfl
def Xl : Par := { (wkF 16).par Xc with jr := fun _ => false, jc := fun _ => false, jd := fun _ => none }
theorem Xl_ok {fn : Nat → List Int → Int} (h : Good fn) : ParOK Try.prog fn Xl :=
  ParOK.ways (FC.parOK (wk_ok h) rfl (WC.parOK (ckP_ok h) rfl (WC.parOK (ckR_ok h) rfl (WC.parOK (apP_ok h) rfl (WC.parOK (apR_ok h) rfl (WC.parOK (hoP_ok h) rfl (WC.parOK (hoR_ok h) rfl (Xb_ok h)))))))) _ _ _
end Go.Proofs.Ytndahgbmdifolaa
