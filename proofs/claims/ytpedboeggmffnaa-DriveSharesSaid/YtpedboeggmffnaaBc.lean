/- What is known on each way of Shares. -/
import Derived.Test.YtpedboeggmffnaaBb
namespace Go.Proofs.Ytpedboeggmffnaa
open Go Go.SX Go.RowKit
set_option linter.unusedVariables false
set_option linter.unusedSimpArgs false
set_option maxRecDepth 100000
def c8x6x0 : Ctx := assumeJ 50 (rcCtx shS (preN 6) 0) (.cmp .lss (.op .mn (.app 21 [(.lit 0), (.lit 68719476736), (.var 0), (.lit 6)]) (.app 5000 [(.lit 0)])) (.app 5000 [(.lit 0)])) true
def c8x6x1 : Ctx := assumeJ 50 (rcCtx shS (preN 6) 0) (.cmp .lss (.op .mn (.app 21 [(.lit 0), (.lit 68719476736), (.var 0), (.lit 6)]) (.app 5000 [(.lit 0)])) (.app 5000 [(.lit 0)])) false
def c8x7x0 : Ctx := assumeJ 50 (rcCtx shS (preN 7) 0) (.cmp .lss (.op .mn (.app 21 [(.lit 0), (.lit 68719476736), (.var 0), (.lit 7)]) (.app 5000 [(.lit 0)])) (.app 5000 [(.lit 0)])) true
def c8x7x1 : Ctx := assumeJ 50 (rcCtx shS (preN 7) 0) (.cmp .lss (.op .mn (.app 21 [(.lit 0), (.lit 68719476736), (.var 0), (.lit 7)]) (.app 5000 [(.lit 0)])) (.app 5000 [(.lit 0)])) false
def c8x7x2 : Ctx := assumeJ 50 c8x7x0 (.cmp .eql (.conv .u64 (.app 22 [(.var 0), (.lit 7)])) (.lit 0)) true
def c8x7x3 : Ctx := assumeJ 50 c8x7x0 (.cmp .eql (.conv .u64 (.app 22 [(.var 0), (.lit 7)])) (.lit 0)) false
def c8x7x4 : Ctx := assumeJ 50 c8x7x3 (.cmp .lss (.op .mn (.app 21 [(.lit 0), (.lit 68719476736), (.var 0), (.lit 7)]) (.app 5000 [(.lit 1)])) (.app 5000 [(.lit 1)])) true
def c8x7x5 : Ctx := assumeJ 50 c8x7x3 (.cmp .lss (.op .mn (.app 21 [(.lit 0), (.lit 68719476736), (.var 0), (.lit 7)]) (.app 5000 [(.lit 1)])) (.app 5000 [(.lit 1)])) false
def c8x7x6 : Ctx := assumeJ 50 c8x7x1 (.cmp .lss (.op .mn (.app 21 [(.lit 0), (.lit 68719476736), (.var 0), (.lit 7)]) (.app 5000 [(.lit 1)])) (.app 5000 [(.lit 1)])) true
def c8x7x7 : Ctx := assumeJ 50 c8x7x1 (.cmp .lss (.op .mn (.app 21 [(.lit 0), (.lit 68719476736), (.var 0), (.lit 7)]) (.app 5000 [(.lit 1)])) (.app 5000 [(.lit 1)])) false
def c8x8x0 : Ctx := assumeJ 50 (rcCtx shS (preN 8) 0) (.cmp .lss (.op .mn (.app 21 [(.lit 0), (.lit 68719476736), (.var 0), (.lit 8)]) (.app 5000 [(.lit 0)])) (.app 5000 [(.lit 0)])) true
def c8x8x1 : Ctx := assumeJ 50 (rcCtx shS (preN 8) 0) (.cmp .lss (.op .mn (.app 21 [(.lit 0), (.lit 68719476736), (.var 0), (.lit 8)]) (.app 5000 [(.lit 0)])) (.app 5000 [(.lit 0)])) false
def c8x8x2 : Ctx := assumeJ 50 c8x8x0 (.cmp .eql (.conv .u64 (.app 22 [(.var 0), (.lit 8)])) (.lit 0)) true
def c8x8x3 : Ctx := assumeJ 50 c8x8x0 (.cmp .eql (.conv .u64 (.app 22 [(.var 0), (.lit 8)])) (.lit 0)) false
def c8x8x4 : Ctx := assumeJ 50 c8x8x3 (.cmp .lss (.op .mn (.app 21 [(.lit 0), (.lit 68719476736), (.var 0), (.lit 8)]) (.app 5000 [(.lit 1)])) (.app 5000 [(.lit 1)])) true
def c8x8x5 : Ctx := assumeJ 50 c8x8x3 (.cmp .lss (.op .mn (.app 21 [(.lit 0), (.lit 68719476736), (.var 0), (.lit 8)]) (.app 5000 [(.lit 1)])) (.app 5000 [(.lit 1)])) false
def c8x8x6 : Ctx := assumeJ 50 c8x8x4 (.cmp .eql (.op .sub (.conv .u64 (.app 22 [(.var 0), (.lit 8)])) (.lit 1)) (.lit 0)) true
def c8x8x7 : Ctx := assumeJ 50 c8x8x4 (.cmp .eql (.op .sub (.conv .u64 (.app 22 [(.var 0), (.lit 8)])) (.lit 1)) (.lit 0)) false
def c8x8x8 : Ctx := assumeJ 50 c8x8x7 (.cmp .lss (.op .mn (.app 21 [(.lit 0), (.lit 68719476736), (.var 0), (.lit 8)]) (.app 5000 [(.lit 2)])) (.app 5000 [(.lit 2)])) true
def c8x8x9 : Ctx := assumeJ 50 c8x8x7 (.cmp .lss (.op .mn (.app 21 [(.lit 0), (.lit 68719476736), (.var 0), (.lit 8)]) (.app 5000 [(.lit 2)])) (.app 5000 [(.lit 2)])) false
def c8x8x10 : Ctx := assumeJ 50 c8x8x5 (.cmp .lss (.op .mn (.app 21 [(.lit 0), (.lit 68719476736), (.var 0), (.lit 8)]) (.app 5000 [(.lit 2)])) (.app 5000 [(.lit 2)])) true
def c8x8x11 : Ctx := assumeJ 50 c8x8x5 (.cmp .lss (.op .mn (.app 21 [(.lit 0), (.lit 68719476736), (.var 0), (.lit 8)]) (.app 5000 [(.lit 2)])) (.app 5000 [(.lit 2)])) false
def c8x8x12 : Ctx := assumeJ 50 c8x8x1 (.cmp .lss (.op .mn (.app 21 [(.lit 0), (.lit 68719476736), (.var 0), (.lit 8)]) (.app 5000 [(.lit 1)])) (.app 5000 [(.lit 1)])) true
def c8x8x13 : Ctx := assumeJ 50 c8x8x1 (.cmp .lss (.op .mn (.app 21 [(.lit 0), (.lit 68719476736), (.var 0), (.lit 8)]) (.app 5000 [(.lit 1)])) (.app 5000 [(.lit 1)])) false
def c8x8x14 : Ctx := assumeJ 50 c8x8x12 (.cmp .eql (.conv .u64 (.app 22 [(.var 0), (.lit 8)])) (.lit 0)) true
def c8x8x15 : Ctx := assumeJ 50 c8x8x12 (.cmp .eql (.conv .u64 (.app 22 [(.var 0), (.lit 8)])) (.lit 0)) false
def c8x8x16 : Ctx := assumeJ 50 c8x8x15 (.cmp .lss (.op .mn (.app 21 [(.lit 0), (.lit 68719476736), (.var 0), (.lit 8)]) (.app 5000 [(.lit 2)])) (.app 5000 [(.lit 2)])) true
def c8x8x17 : Ctx := assumeJ 50 c8x8x15 (.cmp .lss (.op .mn (.app 21 [(.lit 0), (.lit 68719476736), (.var 0), (.lit 8)]) (.app 5000 [(.lit 2)])) (.app 5000 [(.lit 2)])) false
def c8x8x18 : Ctx := assumeJ 50 c8x8x13 (.cmp .lss (.op .mn (.app 21 [(.lit 0), (.lit 68719476736), (.var 0), (.lit 8)]) (.app 5000 [(.lit 2)])) (.app 5000 [(.lit 2)])) true
def c8x8x19 : Ctx := assumeJ 50 c8x8x13 (.cmp .lss (.op .mn (.app 21 [(.lit 0), (.lit 68719476736), (.var 0), (.lit 8)]) (.app 5000 [(.lit 2)])) (.app 5000 [(.lit 2)])) false
def c9x6x0 : Ctx := assumeJ 50 (rcCtx shS (preN 6) 0) (.cmp .gtr (.conv .u64 (.app 22 [(.var 0), (.lit 6)])) (.lit 0)) true
def c9x6x1 : Ctx := assumeJ 50 (rcCtx shS (preN 6) 0) (.cmp .gtr (.conv .u64 (.app 22 [(.var 0), (.lit 6)])) (.lit 0)) false
def c9x6x2 : Ctx := assumeJ 50 c9x6x0 (.cmp .lss (.op .mn (.app 21 [(.lit 0), (.lit 68719476736), (.var 0), (.lit 6)]) (.app 5000 [(.lit 0)])) (.app 5000 [(.lit 0)])) true
def c9x6x3 : Ctx := assumeJ 50 c9x6x0 (.cmp .lss (.op .mn (.app 21 [(.lit 0), (.lit 68719476736), (.var 0), (.lit 6)]) (.app 5000 [(.lit 0)])) (.app 5000 [(.lit 0)])) false
def c9x7x0 : Ctx := assumeJ 50 (rcCtx shS (preN 7) 0) (.cmp .gtr (.conv .u64 (.app 22 [(.var 0), (.lit 7)])) (.lit 0)) true
def c9x7x1 : Ctx := assumeJ 50 (rcCtx shS (preN 7) 0) (.cmp .gtr (.conv .u64 (.app 22 [(.var 0), (.lit 7)])) (.lit 0)) false
def c9x7x2 : Ctx := assumeJ 50 c9x7x0 (.cmp .lss (.op .mn (.app 21 [(.lit 0), (.lit 68719476736), (.var 0), (.lit 7)]) (.app 5000 [(.lit 0)])) (.app 5000 [(.lit 0)])) true
def c9x7x3 : Ctx := assumeJ 50 c9x7x0 (.cmp .lss (.op .mn (.app 21 [(.lit 0), (.lit 68719476736), (.var 0), (.lit 7)]) (.app 5000 [(.lit 0)])) (.app 5000 [(.lit 0)])) false
def c9x7x4 : Ctx := assumeJ 50 c9x7x2 (.cmp .gtr (.op .sub (.conv .u64 (.app 22 [(.var 0), (.lit 7)])) (.lit 1)) (.lit 0)) true
def c9x7x5 : Ctx := assumeJ 50 c9x7x2 (.cmp .gtr (.op .sub (.conv .u64 (.app 22 [(.var 0), (.lit 7)])) (.lit 1)) (.lit 0)) false
def c9x7x6 : Ctx := assumeJ 50 c9x7x4 (.cmp .lss (.op .mn (.app 21 [(.lit 0), (.lit 68719476736), (.var 0), (.lit 7)]) (.app 5000 [(.lit 1)])) (.app 5000 [(.lit 1)])) true
def c9x7x7 : Ctx := assumeJ 50 c9x7x4 (.cmp .lss (.op .mn (.app 21 [(.lit 0), (.lit 68719476736), (.var 0), (.lit 7)]) (.app 5000 [(.lit 1)])) (.app 5000 [(.lit 1)])) false
def c9x7x8 : Ctx := assumeJ 50 c9x7x3 (.cmp .lss (.op .mn (.app 21 [(.lit 0), (.lit 68719476736), (.var 0), (.lit 7)]) (.app 5000 [(.lit 1)])) (.app 5000 [(.lit 1)])) true
def c9x7x9 : Ctx := assumeJ 50 c9x7x3 (.cmp .lss (.op .mn (.app 21 [(.lit 0), (.lit 68719476736), (.var 0), (.lit 7)]) (.app 5000 [(.lit 1)])) (.app 5000 [(.lit 1)])) false
def c9x8x0 : Ctx := assumeJ 50 (rcCtx shS (preN 8) 0) (.cmp .gtr (.conv .u64 (.app 22 [(.var 0), (.lit 8)])) (.lit 0)) true
def c9x8x1 : Ctx := assumeJ 50 (rcCtx shS (preN 8) 0) (.cmp .gtr (.conv .u64 (.app 22 [(.var 0), (.lit 8)])) (.lit 0)) false
def c9x8x2 : Ctx := assumeJ 50 c9x8x0 (.cmp .lss (.op .mn (.app 21 [(.lit 0), (.lit 68719476736), (.var 0), (.lit 8)]) (.app 5000 [(.lit 0)])) (.app 5000 [(.lit 0)])) true
def c9x8x3 : Ctx := assumeJ 50 c9x8x0 (.cmp .lss (.op .mn (.app 21 [(.lit 0), (.lit 68719476736), (.var 0), (.lit 8)]) (.app 5000 [(.lit 0)])) (.app 5000 [(.lit 0)])) false
def c9x8x4 : Ctx := assumeJ 50 c9x8x2 (.cmp .gtr (.op .sub (.conv .u64 (.app 22 [(.var 0), (.lit 8)])) (.lit 1)) (.lit 0)) true
def c9x8x5 : Ctx := assumeJ 50 c9x8x2 (.cmp .gtr (.op .sub (.conv .u64 (.app 22 [(.var 0), (.lit 8)])) (.lit 1)) (.lit 0)) false
def c9x8x6 : Ctx := assumeJ 50 c9x8x4 (.cmp .lss (.op .mn (.app 21 [(.lit 0), (.lit 68719476736), (.var 0), (.lit 8)]) (.app 5000 [(.lit 1)])) (.app 5000 [(.lit 1)])) true
def c9x8x7 : Ctx := assumeJ 50 c9x8x4 (.cmp .lss (.op .mn (.app 21 [(.lit 0), (.lit 68719476736), (.var 0), (.lit 8)]) (.app 5000 [(.lit 1)])) (.app 5000 [(.lit 1)])) false
def c9x8x8 : Ctx := assumeJ 50 c9x8x6 (.cmp .gtr (.op .sub (.op .sub (.conv .u64 (.app 22 [(.var 0), (.lit 8)])) (.lit 1)) (.lit 1)) (.lit 0)) true
def c9x8x9 : Ctx := assumeJ 50 c9x8x6 (.cmp .gtr (.op .sub (.op .sub (.conv .u64 (.app 22 [(.var 0), (.lit 8)])) (.lit 1)) (.lit 1)) (.lit 0)) false
def c9x8x10 : Ctx := assumeJ 50 c9x8x8 (.cmp .lss (.op .mn (.app 21 [(.lit 0), (.lit 68719476736), (.var 0), (.lit 8)]) (.app 5000 [(.lit 2)])) (.app 5000 [(.lit 2)])) true
def c9x8x11 : Ctx := assumeJ 50 c9x8x8 (.cmp .lss (.op .mn (.app 21 [(.lit 0), (.lit 68719476736), (.var 0), (.lit 8)]) (.app 5000 [(.lit 2)])) (.app 5000 [(.lit 2)])) false
def c9x8x12 : Ctx := assumeJ 50 c9x8x7 (.cmp .lss (.op .mn (.app 21 [(.lit 0), (.lit 68719476736), (.var 0), (.lit 8)]) (.app 5000 [(.lit 2)])) (.app 5000 [(.lit 2)])) true
def c9x8x13 : Ctx := assumeJ 50 c9x8x7 (.cmp .lss (.op .mn (.app 21 [(.lit 0), (.lit 68719476736), (.var 0), (.lit 8)]) (.app 5000 [(.lit 2)])) (.app 5000 [(.lit 2)])) false
def c9x8x14 : Ctx := assumeJ 50 c9x8x3 (.cmp .lss (.op .mn (.app 21 [(.lit 0), (.lit 68719476736), (.var 0), (.lit 8)]) (.app 5000 [(.lit 1)])) (.app 5000 [(.lit 1)])) true
def c9x8x15 : Ctx := assumeJ 50 c9x8x3 (.cmp .lss (.op .mn (.app 21 [(.lit 0), (.lit 68719476736), (.var 0), (.lit 8)]) (.app 5000 [(.lit 1)])) (.app 5000 [(.lit 1)])) false
def c9x8x16 : Ctx := assumeJ 50 c9x8x14 (.cmp .gtr (.op .sub (.conv .u64 (.app 22 [(.var 0), (.lit 8)])) (.lit 1)) (.lit 0)) true
def c9x8x17 : Ctx := assumeJ 50 c9x8x14 (.cmp .gtr (.op .sub (.conv .u64 (.app 22 [(.var 0), (.lit 8)])) (.lit 1)) (.lit 0)) false
def c9x8x18 : Ctx := assumeJ 50 c9x8x16 (.cmp .lss (.op .mn (.app 21 [(.lit 0), (.lit 68719476736), (.var 0), (.lit 8)]) (.app 5000 [(.lit 2)])) (.app 5000 [(.lit 2)])) true
def c9x8x19 : Ctx := assumeJ 50 c9x8x16 (.cmp .lss (.op .mn (.app 21 [(.lit 0), (.lit 68719476736), (.var 0), (.lit 8)]) (.app 5000 [(.lit 2)])) (.app 5000 [(.lit 2)])) false
def c9x8x20 : Ctx := assumeJ 50 c9x8x15 (.cmp .lss (.op .mn (.app 21 [(.lit 0), (.lit 68719476736), (.var 0), (.lit 8)]) (.app 5000 [(.lit 2)])) (.app 5000 [(.lit 2)])) true
def c9x8x21 : Ctx := assumeJ 50 c9x8x15 (.cmp .lss (.op .mn (.app 21 [(.lit 0), (.lit 68719476736), (.var 0), (.lit 8)]) (.app 5000 [(.lit 2)])) (.app 5000 [(.lit 2)])) false
end Go.Proofs.Ytpedboeggmffnaa
