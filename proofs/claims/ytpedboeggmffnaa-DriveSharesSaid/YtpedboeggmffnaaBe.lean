/- The contracts of Shares, of the program and of the reference, for each length; the law DriveBlends on its ways. -/
import Derived.Test.YtpedboeggmffnaaBda
import Derived.Test.YtpedboeggmffnaaBdb
import Derived.Test.YtpedboeggmffnaaBdc
import Derived.Test.YtpedboeggmffnaaBdd
import Derived.Test.YtpedboeggmffnaaBde
import Derived.Test.YtpedboeggmffnaaBdf
namespace Go.Proofs.Ytpedboeggmffnaa
open Go Go.SX Go.RowKit
set_option linter.unusedVariables false
set_option linter.unusedSimpArgs false
set_option maxRecDepth 100000
theorem p8x1_ok {fn : Nat → List Int → Int} (h : Good fn) : (shpW 8 1).OK Try.prog fn :=
  pairWC_waysR (X := XS 1) (d := 0) (n := 100000) (shV 1) mixB (XS_ok h.l 1) h.t1 (by kernel_rfl) (.one w8x1x0) sh_rngs.1 (by kernel_rfl)
theorem p8x2_ok {fn : Nat → List Int → Int} (h : Good fn) : (shpW 8 2).OK Try.prog fn :=
  pairWC_waysR (X := XS 2) (d := 0) (n := 100000) (shV 2) mixB (XS_ok h.l 2) h.t2 (by kernel_rfl) (.one w8x2x0) sh_rngs.2.1 (by kernel_rfl)
theorem p8x3_ok {fn : Nat → List Int → Int} (h : Good fn) : (shpW 8 3).OK Try.prog fn :=
  pairWC_waysR (X := XS 3) (d := 0) (n := 100000) (shV 3) mixB (XS_ok h.l 3) h.t3 (by kernel_rfl) (.one w8x3x0) sh_rngs.2.2.1 (by kernel_rfl)
theorem p8x4_ok {fn : Nat → List Int → Int} (h : Good fn) : (shpW 8 4).OK Try.prog fn :=
  pairWC_waysR (X := XS 4) (d := 0) (n := 100000) (shV 4) mixB (XS_ok h.l 4) h.t4 (by kernel_rfl) (.one w8x4x0) sh_rngs.2.2.2.1 (by kernel_rfl)
theorem p8x5_ok {fn : Nat → List Int → Int} (h : Good fn) : (shpW 8 5).OK Try.prog fn :=
  pairWC_waysR (X := XS 5) (d := 0) (n := 100000) (shV 5) mixB (XS_ok h.l 5) h.t5 (by kernel_rfl) (.one w8x5x0) sh_rngs.2.2.2.2.1 (by kernel_rfl)
theorem p8x6_ok {fn : Nat → List Int → Int} (h : Good fn) : (shpW 8 6).OK Try.prog fn :=
  pairWC_waysR (X := XS 6) (d := 0) (n := 100000) (shV 6) mixB (XS_ok h.l 6) h.t6 (by kernel_rfl) (.split (.cmp .lss (.op .mn (.app 21 [(.lit 0), (.lit 68719476736), (.var 0), (.lit 6)]) (.app 5000 [(.lit 0)])) (.app 5000 [(.lit 0)])) (.one w8x6x0) (.one w8x6x1)) sh_rngs.2.2.2.2.2.1 (by kernel_rfl)
theorem p8x7_ok {fn : Nat → List Int → Int} (h : Good fn) : (shpW 8 7).OK Try.prog fn :=
  pairWC_waysR (X := XS 7) (d := 0) (n := 100000) (shV 7) mixB (XS_ok h.l 7) h.t7 (by kernel_rfl) (.split (.cmp .lss (.op .mn (.app 21 [(.lit 0), (.lit 68719476736), (.var 0), (.lit 7)]) (.app 5000 [(.lit 0)])) (.app 5000 [(.lit 0)])) (.split (.cmp .eql (.conv .u64 (.app 22 [(.var 0), (.lit 7)])) (.lit 0)) (.one w8x7x0) (.split (.cmp .lss (.op .mn (.app 21 [(.lit 0), (.lit 68719476736), (.var 0), (.lit 7)]) (.app 5000 [(.lit 1)])) (.app 5000 [(.lit 1)])) (.one w8x7x1) (.one w8x7x2))) (.split (.cmp .lss (.op .mn (.app 21 [(.lit 0), (.lit 68719476736), (.var 0), (.lit 7)]) (.app 5000 [(.lit 1)])) (.app 5000 [(.lit 1)])) (.one w8x7x3) (.one w8x7x4))) sh_rngs.2.2.2.2.2.2.1 (by kernel_rfl)
theorem p8x8_ok {fn : Nat → List Int → Int} (h : Good fn) : (shpW 8 8).OK Try.prog fn :=
  pairWC_waysR (X := XS 8) (d := 0) (n := 100000) (shV 8) mixB (XS_ok h.l 8) h.t8 (by kernel_rfl) (.split (.cmp .lss (.op .mn (.app 21 [(.lit 0), (.lit 68719476736), (.var 0), (.lit 8)]) (.app 5000 [(.lit 0)])) (.app 5000 [(.lit 0)])) (.split (.cmp .eql (.conv .u64 (.app 22 [(.var 0), (.lit 8)])) (.lit 0)) (.one w8x8x0) (.split (.cmp .lss (.op .mn (.app 21 [(.lit 0), (.lit 68719476736), (.var 0), (.lit 8)]) (.app 5000 [(.lit 1)])) (.app 5000 [(.lit 1)])) (.split (.cmp .eql (.op .sub (.conv .u64 (.app 22 [(.var 0), (.lit 8)])) (.lit 1)) (.lit 0)) (.one w8x8x1) (.split (.cmp .lss (.op .mn (.app 21 [(.lit 0), (.lit 68719476736), (.var 0), (.lit 8)]) (.app 5000 [(.lit 2)])) (.app 5000 [(.lit 2)])) (.one w8x8x2) (.one w8x8x3))) (.split (.cmp .lss (.op .mn (.app 21 [(.lit 0), (.lit 68719476736), (.var 0), (.lit 8)]) (.app 5000 [(.lit 2)])) (.app 5000 [(.lit 2)])) (.one w8x8x4) (.one w8x8x5)))) (.split (.cmp .lss (.op .mn (.app 21 [(.lit 0), (.lit 68719476736), (.var 0), (.lit 8)]) (.app 5000 [(.lit 1)])) (.app 5000 [(.lit 1)])) (.split (.cmp .eql (.conv .u64 (.app 22 [(.var 0), (.lit 8)])) (.lit 0)) (.one w8x8x6) (.split (.cmp .lss (.op .mn (.app 21 [(.lit 0), (.lit 68719476736), (.var 0), (.lit 8)]) (.app 5000 [(.lit 2)])) (.app 5000 [(.lit 2)])) (.one w8x8x7) (.one w8x8x8))) (.split (.cmp .lss (.op .mn (.app 21 [(.lit 0), (.lit 68719476736), (.var 0), (.lit 8)]) (.app 5000 [(.lit 2)])) (.app 5000 [(.lit 2)])) (.one w8x8x9) (.one w8x8x10)))) sh_rngs.2.2.2.2.2.2.2 (by kernel_rfl)
theorem p9x1_ok {fn : Nat → List Int → Int} (h : Good fn) : (shpW 9 1).OK Try.prog fn :=
  pairWC_waysR (X := XS 1) (d := 0) (n := 100000) (shV 1) mixB (XS_ok h.l 1) h.t1 (by kernel_rfl) (.one w9x1x0) sh_rngs.1 (by kernel_rfl)
theorem p9x2_ok {fn : Nat → List Int → Int} (h : Good fn) : (shpW 9 2).OK Try.prog fn :=
  pairWC_waysR (X := XS 2) (d := 0) (n := 100000) (shV 2) mixB (XS_ok h.l 2) h.t2 (by kernel_rfl) (.one w9x2x0) sh_rngs.2.1 (by kernel_rfl)
theorem p9x3_ok {fn : Nat → List Int → Int} (h : Good fn) : (shpW 9 3).OK Try.prog fn :=
  pairWC_waysR (X := XS 3) (d := 0) (n := 100000) (shV 3) mixB (XS_ok h.l 3) h.t3 (by kernel_rfl) (.one w9x3x0) sh_rngs.2.2.1 (by kernel_rfl)
theorem p9x4_ok {fn : Nat → List Int → Int} (h : Good fn) : (shpW 9 4).OK Try.prog fn :=
  pairWC_waysR (X := XS 4) (d := 0) (n := 100000) (shV 4) mixB (XS_ok h.l 4) h.t4 (by kernel_rfl) (.one w9x4x0) sh_rngs.2.2.2.1 (by kernel_rfl)
theorem p9x5_ok {fn : Nat → List Int → Int} (h : Good fn) : (shpW 9 5).OK Try.prog fn :=
  pairWC_waysR (X := XS 5) (d := 0) (n := 100000) (shV 5) mixB (XS_ok h.l 5) h.t5 (by kernel_rfl) (.one w9x5x0) sh_rngs.2.2.2.2.1 (by kernel_rfl)
theorem p9x6_ok {fn : Nat → List Int → Int} (h : Good fn) : (shpW 9 6).OK Try.prog fn :=
  pairWC_waysR (X := XS 6) (d := 0) (n := 100000) (shV 6) mixB (XS_ok h.l 6) h.t6 (by kernel_rfl) (.split (.cmp .gtr (.conv .u64 (.app 22 [(.var 0), (.lit 6)])) (.lit 0)) (.split (.cmp .lss (.op .mn (.app 21 [(.lit 0), (.lit 68719476736), (.var 0), (.lit 6)]) (.app 5000 [(.lit 0)])) (.app 5000 [(.lit 0)])) (.one w9x6x0) (.one w9x6x1)) (.one w9x6x2)) sh_rngs.2.2.2.2.2.1 (by kernel_rfl)
theorem p9x7_ok {fn : Nat → List Int → Int} (h : Good fn) : (shpW 9 7).OK Try.prog fn :=
  pairWC_waysR (X := XS 7) (d := 0) (n := 100000) (shV 7) mixB (XS_ok h.l 7) h.t7 (by kernel_rfl) (.split (.cmp .gtr (.conv .u64 (.app 22 [(.var 0), (.lit 7)])) (.lit 0)) (.split (.cmp .lss (.op .mn (.app 21 [(.lit 0), (.lit 68719476736), (.var 0), (.lit 7)]) (.app 5000 [(.lit 0)])) (.app 5000 [(.lit 0)])) (.split (.cmp .gtr (.op .sub (.conv .u64 (.app 22 [(.var 0), (.lit 7)])) (.lit 1)) (.lit 0)) (.split (.cmp .lss (.op .mn (.app 21 [(.lit 0), (.lit 68719476736), (.var 0), (.lit 7)]) (.app 5000 [(.lit 1)])) (.app 5000 [(.lit 1)])) (.one w9x7x0) (.one w9x7x1)) (.one w9x7x2)) (.split (.cmp .lss (.op .mn (.app 21 [(.lit 0), (.lit 68719476736), (.var 0), (.lit 7)]) (.app 5000 [(.lit 1)])) (.app 5000 [(.lit 1)])) (.one w9x7x3) (.one w9x7x4))) (.one w9x7x5)) sh_rngs.2.2.2.2.2.2.1 (by kernel_rfl)
theorem p9x8_ok {fn : Nat → List Int → Int} (h : Good fn) : (shpW 9 8).OK Try.prog fn :=
  pairWC_waysR (X := XS 8) (d := 0) (n := 100000) (shV 8) mixB (XS_ok h.l 8) h.t8 (by kernel_rfl) (.split (.cmp .gtr (.conv .u64 (.app 22 [(.var 0), (.lit 8)])) (.lit 0)) (.split (.cmp .lss (.op .mn (.app 21 [(.lit 0), (.lit 68719476736), (.var 0), (.lit 8)]) (.app 5000 [(.lit 0)])) (.app 5000 [(.lit 0)])) (.split (.cmp .gtr (.op .sub (.conv .u64 (.app 22 [(.var 0), (.lit 8)])) (.lit 1)) (.lit 0)) (.split (.cmp .lss (.op .mn (.app 21 [(.lit 0), (.lit 68719476736), (.var 0), (.lit 8)]) (.app 5000 [(.lit 1)])) (.app 5000 [(.lit 1)])) (.split (.cmp .gtr (.op .sub (.op .sub (.conv .u64 (.app 22 [(.var 0), (.lit 8)])) (.lit 1)) (.lit 1)) (.lit 0)) (.split (.cmp .lss (.op .mn (.app 21 [(.lit 0), (.lit 68719476736), (.var 0), (.lit 8)]) (.app 5000 [(.lit 2)])) (.app 5000 [(.lit 2)])) (.one w9x8x0) (.one w9x8x1)) (.one w9x8x2)) (.split (.cmp .lss (.op .mn (.app 21 [(.lit 0), (.lit 68719476736), (.var 0), (.lit 8)]) (.app 5000 [(.lit 2)])) (.app 5000 [(.lit 2)])) (.one w9x8x3) (.one w9x8x4))) (.one w9x8x5)) (.split (.cmp .lss (.op .mn (.app 21 [(.lit 0), (.lit 68719476736), (.var 0), (.lit 8)]) (.app 5000 [(.lit 1)])) (.app 5000 [(.lit 1)])) (.split (.cmp .gtr (.op .sub (.conv .u64 (.app 22 [(.var 0), (.lit 8)])) (.lit 1)) (.lit 0)) (.split (.cmp .lss (.op .mn (.app 21 [(.lit 0), (.lit 68719476736), (.var 0), (.lit 8)]) (.app 5000 [(.lit 2)])) (.app 5000 [(.lit 2)])) (.one w9x8x6) (.one w9x8x7)) (.one w9x8x8)) (.split (.cmp .lss (.op .mn (.app 21 [(.lit 0), (.lit 68719476736), (.var 0), (.lit 8)]) (.app 5000 [(.lit 2)])) (.app 5000 [(.lit 2)])) (.one w9x8x9) (.one w9x8x10)))) (.one w9x8x11)) sh_rngs.2.2.2.2.2.2.2 (by kernel_rfl)
def XL (n : Nat) : Par := (shpW 8 n).par ((shpW 9 n).par (knFC.par ((blFC 6).par ((blFC 7).par noPar))))
theorem XL1_ok {fn : Nat → List Int → Int} (h : Good fn) : ParOK Try.prog fn (XL 1) :=
  WC.parOK (p8x1_ok h) (by kernel_rfl) (WC.parOK (p9x1_ok h) (by kernel_rfl) (FC.parOK (kn_ok h) rfl (FC.parOK (bl6_ok h) rfl (FC.parOK (bl7_ok h) rfl (noPar_ok _ h.l.rows)))))
theorem XL2_ok {fn : Nat → List Int → Int} (h : Good fn) : ParOK Try.prog fn (XL 2) :=
  WC.parOK (p8x2_ok h) (by kernel_rfl) (WC.parOK (p9x2_ok h) (by kernel_rfl) (FC.parOK (kn_ok h) rfl (FC.parOK (bl6_ok h) rfl (FC.parOK (bl7_ok h) rfl (noPar_ok _ h.l.rows)))))
theorem XL3_ok {fn : Nat → List Int → Int} (h : Good fn) : ParOK Try.prog fn (XL 3) :=
  WC.parOK (p8x3_ok h) (by kernel_rfl) (WC.parOK (p9x3_ok h) (by kernel_rfl) (FC.parOK (kn_ok h) rfl (FC.parOK (bl6_ok h) rfl (FC.parOK (bl7_ok h) rfl (noPar_ok _ h.l.rows)))))
theorem XL4_ok {fn : Nat → List Int → Int} (h : Good fn) : ParOK Try.prog fn (XL 4) :=
  WC.parOK (p8x4_ok h) (by kernel_rfl) (WC.parOK (p9x4_ok h) (by kernel_rfl) (FC.parOK (kn_ok h) rfl (FC.parOK (bl6_ok h) rfl (FC.parOK (bl7_ok h) rfl (noPar_ok _ h.l.rows)))))
theorem XL5_ok {fn : Nat → List Int → Int} (h : Good fn) : ParOK Try.prog fn (XL 5) :=
  WC.parOK (p8x5_ok h) (by kernel_rfl) (WC.parOK (p9x5_ok h) (by kernel_rfl) (FC.parOK (kn_ok h) rfl (FC.parOK (bl6_ok h) rfl (FC.parOK (bl7_ok h) rfl (noPar_ok _ h.l.rows)))))
theorem XL6_ok {fn : Nat → List Int → Int} (h : Good fn) : ParOK Try.prog fn (XL 6) :=
  WC.parOK (p8x6_ok h) (by kernel_rfl) (WC.parOK (p9x6_ok h) (by kernel_rfl) (FC.parOK (kn_ok h) rfl (FC.parOK (bl6_ok h) rfl (FC.parOK (bl7_ok h) rfl (noPar_ok _ h.l.rows)))))
theorem XL7_ok {fn : Nat → List Int → Int} (h : Good fn) : ParOK Try.prog fn (XL 7) :=
  WC.parOK (p8x7_ok h) (by kernel_rfl) (WC.parOK (p9x7_ok h) (by kernel_rfl) (FC.parOK (kn_ok h) rfl (FC.parOK (bl6_ok h) rfl (FC.parOK (bl7_ok h) rfl (noPar_ok _ h.l.rows)))))
theorem XL8_ok {fn : Nat → List Int → Int} (h : Good fn) : ParOK Try.prog fn (XL 8) :=
  WC.parOK (p8x8_ok h) (by kernel_rfl) (WC.parOK (p9x8_ok h) (by kernel_rfl) (FC.parOK (kn_ok h) rfl (FC.parOK (bl6_ok h) rfl (FC.parOK (bl7_ok h) rfl (noPar_ok _ h.l.rows)))))
def XZ : Par := knFC.par ((blFC 6).par ((blFC 7).par noPar))
theorem XZ_ok {fn : Nat → List Int → Int} (h : Good fn) : ParOK Try.prog fn XZ := FC.parOK (kn_ok h) rfl (FC.parOK (bl6_ok h) rfl (FC.parOK (bl7_ok h) rfl (noPar_ok _ h.l.rows)))
end Go.Proofs.Ytpedboeggmffnaa
