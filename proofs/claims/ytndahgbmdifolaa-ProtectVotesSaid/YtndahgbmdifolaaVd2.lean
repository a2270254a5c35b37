/- A contract of the votes, in a pair. -/
import Derived.Test.YtndahgbmdifolaaVd2a
import Derived.Test.YtndahgbmdifolaaVd2b
import Derived.Test.YtndahgbmdifolaaVd2c
import Derived.Test.YtndahgbmdifolaaVd2d
namespace Go.Proofs.Ytndahgbmdifolaa
open Go Go.SX Go.RowKit
set_option linter.unusedVariables false
set_option linter.unusedSimpArgs false
set_option maxRecDepth 100000
theorem apP_ok {fn : Nat → List Int → Int} (h : Good fn) : apP.OK Try.prog fn :=
  pairWC_ways (X := Xj [60] jdA) (d := 1) (n := 100000) ap37T mixV (Xj_ok h _ _) h.ap (by kernel_rfl) (.split (.tst (.var 40)) (.split (.tst (.var 41)) (.split (.tst (.var 42)) (.one w0) (.split (.tst (.var 34)) (.one w1) (.one w2))) (.split (.tst (.var 28)) (.split (.tst (.var 42)) (.one w3) (.split (.tst (.var 34)) (.one w4) (.one w5))) (.split (.tst (.var 42)) (.one w6) (.split (.tst (.var 34)) (.one w7) (.one w8))))) (.split (.tst (.var 22)) (.split (.tst (.var 41)) (.split (.tst (.var 42)) (.one w9) (.split (.tst (.var 34)) (.one w10) (.one w11))) (.split (.tst (.var 28)) (.split (.tst (.var 42)) (.one w12) (.split (.tst (.var 34)) (.one w13) (.one w14))) (.split (.tst (.var 42)) (.one w15) (.split (.tst (.var 34)) (.one w16) (.one w17))))) (.split (.tst (.var 41)) (.split (.tst (.var 42)) (.one w18) (.split (.tst (.var 34)) (.one w19) (.one w20))) (.split (.tst (.var 28)) (.split (.tst (.var 42)) (.one w21) (.split (.tst (.var 34)) (.one w22) (.one w23))) (.split (.tst (.var 42)) (.one w24) (.split (.tst (.var 34)) (.one w25) (.one w26)))))))
end Go.Proofs.Ytndahgbmdifolaa
