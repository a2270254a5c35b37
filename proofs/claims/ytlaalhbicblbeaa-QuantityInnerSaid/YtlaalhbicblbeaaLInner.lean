/- The law QuantityInner answers true for every input: if spans are inside of others, so are the results; no condition beyond the row's own. -/
import Derived.Test.YtlaalhbicblbeaaRows
import Derived.WalkKit
import Derived.ProofKit
import Derived.OpenShut
import Derived.Below
import Derived.ChangeOld
import Derived.Test.YtlaalhbicblbeaaSy24
import Derived.Test.YtlaalhbicblbeaaSy25
import Derived.Test.YtlaalhbicblbeaaQib
namespace Go.Proofs.Ytlaalhbicblbeaa.quantityInner
open Go.ChangeShapes Go.WideShapes Go.ChangeAt Go.RowKit
set_option linter.unusedVariables false
set_option linter.unusedSimpArgs false

theorem own : ownKnob Try.prog.godebug = none := by kernel_rfl
theorem laidOut : laidOutB Try.prog = true := by kernel_rfl
theorem mix : Try.prog.follows .mixedOrders = true := by kernel_rfl
def ks0 : List (Option IntKind) := [some .i16, some .i16, some .u16]
def ks1 : List (Option IntKind) := [some .i16, some .i16, some .u16]
def ks2 : List (Option IntKind) := [some .i16, some .i16, some .u16]
def ks3 : List (Option IntKind) := [some .i16, some .i16, some .u16]
def ks4 : List (Option IntKind) := [some .i16]
def ks5 : List (Option IntKind) := [some .u16]
def sig : List (Bool × List (Option IntKind)) := [(true, ks0), (true, ks1), (true, ks2), (true, ks3), (false, ks4), (false, ks5)]
open Go.SX QI
set_option maxRecDepth 100000
theorem den_blit (env : Env) (b : Bool) : (BE.lit b).den env = b := rfl
noncomputable def fn : Nat → List Int → Int := Ytlaalhbicblbeaa.sfn
def X : Go.SX.Par := parS
theorem XOK : Go.SX.ParOK Try.prog fn X := parS_ok
def facts : List (Go.SX.BE × Bool) := []
/-- what the call comes to -/
noncomputable def tree : Go.SX.PT := Go.SX.run (Go.SX.callT Try.prog X 100000 9 (Go.SX.symAll sig 0) (Go.SX.ctxF sig facts 0)) Go.SX.st0
theorem tree_eq : Go.SX.run (Go.SX.callT Try.prog X 100000 9 (Go.SX.symAll sig 0) (Go.SX.ctxF sig facts 0)) Go.SX.st0 = tree := rfl
attribute [irreducible] tree
set_option maxRecDepth 100000 in
def vt : Go.SX.VT := (.need (.cmp .leq (.op .add (.app 150 [(.var 0), (.app 10 [(.var 0), (.var 1)]), (.var 3), (.app 10 [(.var 3), (.var 4)])]) (.var 9)) (.op .add (.app 151 [(.var 0), (.app 10 [(.var 0), (.var 1)]), (.var 3), (.app 10 [(.var 3), (.var 4)])]) (.app 10 [(.var 9), (.var 10)]))) (.need (.cmp .leq (.op .add (.app 150 [(.app 150 [(.var 0), (.app 10 [(.var 0), (.var 1)]), (.var 3), (.app 10 [(.var 3), (.var 4)])]), (.app 151 [(.var 0), (.app 10 [(.var 0), (.var 1)]), (.var 3), (.app 10 [(.var 3), (.var 4)])]), (.var 6), (.app 10 [(.var 6), (.var 7)])]) (.app 150 [(.var 9), (.app 10 [(.var 9), (.var 10)]), (.var 3), (.app 10 [(.var 3), (.var 4)])])) (.op .add (.app 151 [(.app 150 [(.var 0), (.app 10 [(.var 0), (.var 1)]), (.var 3), (.app 10 [(.var 3), (.var 4)])]), (.app 151 [(.var 0), (.app 10 [(.var 0), (.var 1)]), (.var 3), (.app 10 [(.var 3), (.var 4)])]), (.var 6), (.app 10 [(.var 6), (.var 7)])]) (.app 151 [(.var 9), (.app 10 [(.var 9), (.var 10)]), (.var 3), (.app 10 [(.var 3), (.var 4)])]))) (.ite (.neg (.and (.cmp .leq (.op .add (.app 150 [(.app 150 [(.var 0), (.app 10 [(.var 0), (.var 1)]), (.var 3), (.app 10 [(.var 3), (.var 4)])]), (.app 151 [(.var 0), (.app 10 [(.var 0), (.var 1)]), (.var 3), (.app 10 [(.var 3), (.var 4)])]), (.var 6), (.app 10 [(.var 6), (.var 7)])]) (.app 150 [(.var 9), (.app 10 [(.var 9), (.var 10)]), (.var 3), (.app 10 [(.var 3), (.var 4)])])) (.op .add (.app 150 [(.var 0), (.app 10 [(.var 0), (.var 1)]), (.var 3), (.app 10 [(.var 3), (.var 4)])]) (.var 9))) (.cmp .leq (.op .add (.app 151 [(.var 0), (.app 10 [(.var 0), (.var 1)]), (.var 3), (.app 10 [(.var 3), (.var 4)])]) (.app 10 [(.var 9), (.var 10)])) (.op .add (.app 151 [(.app 150 [(.var 0), (.app 10 [(.var 0), (.var 1)]), (.var 3), (.app 10 [(.var 3), (.var 4)])]), (.app 151 [(.var 0), (.app 10 [(.var 0), (.var 1)]), (.var 3), (.app 10 [(.var 3), (.var 4)])]), (.var 6), (.app 10 [(.var 6), (.var 7)])]) (.app 151 [(.var 9), (.app 10 [(.var 9), (.var 10)]), (.var 3), (.app 10 [(.var 3), (.var 4)])]))))) (.leaf (.bool (.lit false))) (.ite (.neg (.and (.cmp .leq (.op .sub (.app 150 [(.app 150 [(.var 0), (.app 10 [(.var 0), (.var 1)]), (.var 3), (.app 10 [(.var 3), (.var 4)])]), (.app 151 [(.var 0), (.app 10 [(.var 0), (.var 1)]), (.var 3), (.app 10 [(.var 3), (.var 4)])]), (.var 6), (.app 10 [(.var 6), (.var 7)])]) (.app 151 [(.var 9), (.app 10 [(.var 9), (.var 10)]), (.var 3), (.app 10 [(.var 3), (.var 4)])])) (.op .sub (.app 150 [(.var 0), (.app 10 [(.var 0), (.var 1)]), (.var 3), (.app 10 [(.var 3), (.var 4)])]) (.app 10 [(.var 9), (.var 10)]))) (.cmp .leq (.op .sub (.app 151 [(.var 0), (.app 10 [(.var 0), (.var 1)]), (.var 3), (.app 10 [(.var 3), (.var 4)])]) (.var 9)) (.op .sub (.app 151 [(.app 150 [(.var 0), (.app 10 [(.var 0), (.var 1)]), (.var 3), (.app 10 [(.var 3), (.var 4)])]), (.app 151 [(.var 0), (.app 10 [(.var 0), (.var 1)]), (.var 3), (.app 10 [(.var 3), (.var 4)])]), (.var 6), (.app 10 [(.var 6), (.var 7)])]) (.app 150 [(.var 9), (.app 10 [(.var 9), (.var 10)]), (.var 3), (.app 10 [(.var 3), (.var 4)])]))))) (.leaf (.bool (.lit false))) (.ite (.neg (.and (.cmp .leq (.app 170 [(.app 150 [(.app 150 [(.var 0), (.app 10 [(.var 0), (.var 1)]), (.var 3), (.app 10 [(.var 3), (.var 4)])]), (.app 151 [(.var 0), (.app 10 [(.var 0), (.var 1)]), (.var 3), (.app 10 [(.var 3), (.var 4)])]), (.var 6), (.app 10 [(.var 6), (.var 7)])]), (.app 151 [(.app 150 [(.var 0), (.app 10 [(.var 0), (.var 1)]), (.var 3), (.app 10 [(.var 3), (.var 4)])]), (.app 151 [(.var 0), (.app 10 [(.var 0), (.var 1)]), (.var 3), (.app 10 [(.var 3), (.var 4)])]), (.var 6), (.app 10 [(.var 6), (.var 7)])]), (.var 12), (.op .add (.var 13) (.lit 1))]) (.app 170 [(.app 150 [(.var 0), (.app 10 [(.var 0), (.var 1)]), (.var 3), (.app 10 [(.var 3), (.var 4)])]), (.app 151 [(.var 0), (.app 10 [(.var 0), (.var 1)]), (.var 3), (.app 10 [(.var 3), (.var 4)])]), (.var 12), (.op .add (.var 13) (.lit 1))])) (.cmp .leq (.app 171 [(.app 150 [(.var 0), (.app 10 [(.var 0), (.var 1)]), (.var 3), (.app 10 [(.var 3), (.var 4)])]), (.app 151 [(.var 0), (.app 10 [(.var 0), (.var 1)]), (.var 3), (.app 10 [(.var 3), (.var 4)])]), (.var 12), (.op .add (.var 13) (.lit 1))]) (.app 171 [(.app 150 [(.app 150 [(.var 0), (.app 10 [(.var 0), (.var 1)]), (.var 3), (.app 10 [(.var 3), (.var 4)])]), (.app 151 [(.var 0), (.app 10 [(.var 0), (.var 1)]), (.var 3), (.app 10 [(.var 3), (.var 4)])]), (.var 6), (.app 10 [(.var 6), (.var 7)])]), (.app 151 [(.app 150 [(.var 0), (.app 10 [(.var 0), (.var 1)]), (.var 3), (.app 10 [(.var 3), (.var 4)])]), (.app 151 [(.var 0), (.app 10 [(.var 0), (.var 1)]), (.var 3), (.app 10 [(.var 3), (.var 4)])]), (.var 6), (.app 10 [(.var 6), (.var 7)])]), (.var 12), (.op .add (.var 13) (.lit 1))])))) (.leaf (.bool (.lit false))) (.ite (.neg (.and (.cmp .leq (.app 120 [(.app 150 [(.app 150 [(.var 0), (.app 10 [(.var 0), (.var 1)]), (.var 3), (.app 10 [(.var 3), (.var 4)])]), (.app 151 [(.var 0), (.app 10 [(.var 0), (.var 1)]), (.var 3), (.app 10 [(.var 3), (.var 4)])]), (.var 6), (.app 10 [(.var 6), (.var 7)])]), (.app 151 [(.app 150 [(.var 0), (.app 10 [(.var 0), (.var 1)]), (.var 3), (.app 10 [(.var 3), (.var 4)])]), (.app 151 [(.var 0), (.app 10 [(.var 0), (.var 1)]), (.var 3), (.app 10 [(.var 3), (.var 4)])]), (.var 6), (.app 10 [(.var 6), (.var 7)])]), (.app 150 [(.var 9), (.app 10 [(.var 9), (.var 10)]), (.var 3), (.app 10 [(.var 3), (.var 4)])]), (.app 151 [(.var 9), (.app 10 [(.var 9), (.var 10)]), (.var 3), (.app 10 [(.var 3), (.var 4)])]), (.op .add (.var 13) (.lit 1))]) (.app 120 [(.app 150 [(.var 0), (.app 10 [(.var 0), (.var 1)]), (.var 3), (.app 10 [(.var 3), (.var 4)])]), (.app 151 [(.var 0), (.app 10 [(.var 0), (.var 1)]), (.var 3), (.app 10 [(.var 3), (.var 4)])]), (.var 9), (.app 10 [(.var 9), (.var 10)]), (.op .add (.var 13) (.lit 1))])) (.cmp .leq (.app 121 [(.app 150 [(.var 0), (.app 10 [(.var 0), (.var 1)]), (.var 3), (.app 10 [(.var 3), (.var 4)])]), (.app 151 [(.var 0), (.app 10 [(.var 0), (.var 1)]), (.var 3), (.app 10 [(.var 3), (.var 4)])]), (.var 9), (.app 10 [(.var 9), (.var 10)]), (.op .add (.var 13) (.lit 1))]) (.app 121 [(.app 150 [(.app 150 [(.var 0), (.app 10 [(.var 0), (.var 1)]), (.var 3), (.app 10 [(.var 3), (.var 4)])]), (.app 151 [(.var 0), (.app 10 [(.var 0), (.var 1)]), (.var 3), (.app 10 [(.var 3), (.var 4)])]), (.var 6), (.app 10 [(.var 6), (.var 7)])]), (.app 151 [(.app 150 [(.var 0), (.app 10 [(.var 0), (.var 1)]), (.var 3), (.app 10 [(.var 3), (.var 4)])]), (.app 151 [(.var 0), (.app 10 [(.var 0), (.var 1)]), (.var 3), (.app 10 [(.var 3), (.var 4)])]), (.var 6), (.app 10 [(.var 6), (.var 7)])]), (.app 150 [(.var 9), (.app 10 [(.var 9), (.var 10)]), (.var 3), (.app 10 [(.var 3), (.var 4)])]), (.app 151 [(.var 9), (.app 10 [(.var 9), (.var 10)]), (.var 3), (.app 10 [(.var 3), (.var 4)])]), (.op .add (.var 13) (.lit 1))])))) (.leaf (.bool (.lit false))) (.ite (.and (.cmp .eql (.app 132 [(.app 150 [(.var 0), (.app 10 [(.var 0), (.var 1)]), (.var 3), (.app 10 [(.var 3), (.var 4)])]), (.app 151 [(.var 0), (.app 10 [(.var 0), (.var 1)]), (.var 3), (.app 10 [(.var 3), (.var 4)])]), (.var 9), (.app 10 [(.var 9), (.var 10)]), (.var 12)]) (.lit 0)) (.and (.cmp .eql (.app 132 [(.app 150 [(.app 150 [(.var 0), (.app 10 [(.var 0), (.var 1)]), (.var 3), (.app 10 [(.var 3), (.var 4)])]), (.app 151 [(.var 0), (.app 10 [(.var 0), (.var 1)]), (.var 3), (.app 10 [(.var 3), (.var 4)])]), (.var 6), (.app 10 [(.var 6), (.var 7)])]), (.app 151 [(.app 150 [(.var 0), (.app 10 [(.var 0), (.var 1)]), (.var 3), (.app 10 [(.var 3), (.var 4)])]), (.app 151 [(.var 0), (.app 10 [(.var 0), (.var 1)]), (.var 3), (.app 10 [(.var 3), (.var 4)])]), (.var 6), (.app 10 [(.var 6), (.var 7)])]), (.app 150 [(.var 9), (.app 10 [(.var 9), (.var 10)]), (.var 3), (.app 10 [(.var 3), (.var 4)])]), (.app 151 [(.var 9), (.app 10 [(.var 9), (.var 10)]), (.var 3), (.app 10 [(.var 3), (.var 4)])]), (.var 12)]) (.lit 0)) (.neg (.and (.cmp .leq (.app 130 [(.app 150 [(.app 150 [(.var 0), (.app 10 [(.var 0), (.var 1)]), (.var 3), (.app 10 [(.var 3), (.var 4)])]), (.app 151 [(.var 0), (.app 10 [(.var 0), (.var 1)]), (.var 3), (.app 10 [(.var 3), (.var 4)])]), (.var 6), (.app 10 [(.var 6), (.var 7)])]), (.app 151 [(.app 150 [(.var 0), (.app 10 [(.var 0), (.var 1)]), (.var 3), (.app 10 [(.var 3), (.var 4)])]), (.app 151 [(.var 0), (.app 10 [(.var 0), (.var 1)]), (.var 3), (.app 10 [(.var 3), (.var 4)])]), (.var 6), (.app 10 [(.var 6), (.var 7)])]), (.app 150 [(.var 9), (.app 10 [(.var 9), (.var 10)]), (.var 3), (.app 10 [(.var 3), (.var 4)])]), (.app 151 [(.var 9), (.app 10 [(.var 9), (.var 10)]), (.var 3), (.app 10 [(.var 3), (.var 4)])]), (.var 12)]) (.app 130 [(.app 150 [(.var 0), (.app 10 [(.var 0), (.var 1)]), (.var 3), (.app 10 [(.var 3), (.var 4)])]), (.app 151 [(.var 0), (.app 10 [(.var 0), (.var 1)]), (.var 3), (.app 10 [(.var 3), (.var 4)])]), (.var 9), (.app 10 [(.var 9), (.var 10)]), (.var 12)])) (.cmp .leq (.app 131 [(.app 150 [(.var 0), (.app 10 [(.var 0), (.var 1)]), (.var 3), (.app 10 [(.var 3), (.var 4)])]), (.app 151 [(.var 0), (.app 10 [(.var 0), (.var 1)]), (.var 3), (.app 10 [(.var 3), (.var 4)])]), (.var 9), (.app 10 [(.var 9), (.var 10)]), (.var 12)]) (.app 131 [(.app 150 [(.app 150 [(.var 0), (.app 10 [(.var 0), (.var 1)]), (.var 3), (.app 10 [(.var 3), (.var 4)])]), (.app 151 [(.var 0), (.app 10 [(.var 0), (.var 1)]), (.var 3), (.app 10 [(.var 3), (.var 4)])]), (.var 6), (.app 10 [(.var 6), (.var 7)])]), (.app 151 [(.app 150 [(.var 0), (.app 10 [(.var 0), (.var 1)]), (.var 3), (.app 10 [(.var 3), (.var 4)])]), (.app 151 [(.var 0), (.app 10 [(.var 0), (.var 1)]), (.var 3), (.app 10 [(.var 3), (.var 4)])]), (.var 6), (.app 10 [(.var 6), (.var 7)])]), (.app 150 [(.var 9), (.app 10 [(.var 9), (.var 10)]), (.var 3), (.app 10 [(.var 3), (.var 4)])]), (.app 151 [(.var 9), (.app 10 [(.var 9), (.var 10)]), (.var 3), (.app 10 [(.var 3), (.var 4)])]), (.var 12)])))))) (.leaf (.bool (.lit false))) (.ite (.and (.cmp .eql (.app 132 [(.app 150 [(.app 150 [(.var 0), (.app 10 [(.var 0), (.var 1)]), (.var 3), (.app 10 [(.var 3), (.var 4)])]), (.app 151 [(.var 0), (.app 10 [(.var 0), (.var 1)]), (.var 3), (.app 10 [(.var 3), (.var 4)])]), (.var 6), (.app 10 [(.var 6), (.var 7)])]), (.app 151 [(.app 150 [(.var 0), (.app 10 [(.var 0), (.var 1)]), (.var 3), (.app 10 [(.var 3), (.var 4)])]), (.app 151 [(.var 0), (.app 10 [(.var 0), (.var 1)]), (.var 3), (.app 10 [(.var 3), (.var 4)])]), (.var 6), (.app 10 [(.var 6), (.var 7)])]), (.app 150 [(.var 9), (.app 10 [(.var 9), (.var 10)]), (.var 3), (.app 10 [(.var 3), (.var 4)])]), (.app 151 [(.var 9), (.app 10 [(.var 9), (.var 10)]), (.var 3), (.app 10 [(.var 3), (.var 4)])]), (.var 12)]) (.lit 0)) (.cmp .neq (.app 132 [(.app 150 [(.var 0), (.app 10 [(.var 0), (.var 1)]), (.var 3), (.app 10 [(.var 3), (.var 4)])]), (.app 151 [(.var 0), (.app 10 [(.var 0), (.var 1)]), (.var 3), (.app 10 [(.var 3), (.var 4)])]), (.var 9), (.app 10 [(.var 9), (.var 10)]), (.var 12)]) (.lit 0))) (.leaf (.bool (.lit false))) (.ite (.neg (.and (.cmp .leq (.app 180 [(.app 150 [(.app 150 [(.var 0), (.app 10 [(.var 0), (.var 1)]), (.var 3), (.app 10 [(.var 3), (.var 4)])]), (.app 151 [(.var 0), (.app 10 [(.var 0), (.var 1)]), (.var 3), (.app 10 [(.var 3), (.var 4)])]), (.var 6), (.app 10 [(.var 6), (.var 7)])]), (.app 151 [(.app 150 [(.var 0), (.app 10 [(.var 0), (.var 1)]), (.var 3), (.app 10 [(.var 3), (.var 4)])]), (.app 151 [(.var 0), (.app 10 [(.var 0), (.var 1)]), (.var 3), (.app 10 [(.var 3), (.var 4)])]), (.var 6), (.app 10 [(.var 6), (.var 7)])]), (.op .add (.var 13) (.lit 1))]) (.app 180 [(.app 150 [(.var 0), (.app 10 [(.var 0), (.var 1)]), (.var 3), (.app 10 [(.var 3), (.var 4)])]), (.app 151 [(.var 0), (.app 10 [(.var 0), (.var 1)]), (.var 3), (.app 10 [(.var 3), (.var 4)])]), (.op .add (.var 13) (.lit 1))])) (.cmp .leq (.app 181 [(.app 150 [(.var 0), (.app 10 [(.var 0), (.var 1)]), (.var 3), (.app 10 [(.var 3), (.var 4)])]), (.app 151 [(.var 0), (.app 10 [(.var 0), (.var 1)]), (.var 3), (.app 10 [(.var 3), (.var 4)])]), (.op .add (.var 13) (.lit 1))]) (.app 181 [(.app 150 [(.app 150 [(.var 0), (.app 10 [(.var 0), (.var 1)]), (.var 3), (.app 10 [(.var 3), (.var 4)])]), (.app 151 [(.var 0), (.app 10 [(.var 0), (.var 1)]), (.var 3), (.app 10 [(.var 3), (.var 4)])]), (.var 6), (.app 10 [(.var 6), (.var 7)])]), (.app 151 [(.app 150 [(.var 0), (.app 10 [(.var 0), (.var 1)]), (.var 3), (.app 10 [(.var 3), (.var 4)])]), (.app 151 [(.var 0), (.app 10 [(.var 0), (.var 1)]), (.var 3), (.app 10 [(.var 3), (.var 4)])]), (.var 6), (.app 10 [(.var 6), (.var 7)])]), (.op .add (.var 13) (.lit 1))])))) (.leaf (.bool (.lit false))) (.ite (.and (.cmp .eql (.app 142 [(.app 150 [(.var 0), (.app 10 [(.var 0), (.var 1)]), (.var 3), (.app 10 [(.var 3), (.var 4)])]), (.app 151 [(.var 0), (.app 10 [(.var 0), (.var 1)]), (.var 3), (.app 10 [(.var 3), (.var 4)])]), (.var 9), (.app 10 [(.var 9), (.var 10)])]) (.lit 0)) (.and (.cmp .eql (.app 142 [(.app 150 [(.app 150 [(.var 0), (.app 10 [(.var 0), (.var 1)]), (.var 3), (.app 10 [(.var 3), (.var 4)])]), (.app 151 [(.var 0), (.app 10 [(.var 0), (.var 1)]), (.var 3), (.app 10 [(.var 3), (.var 4)])]), (.var 6), (.app 10 [(.var 6), (.var 7)])]), (.app 151 [(.app 150 [(.var 0), (.app 10 [(.var 0), (.var 1)]), (.var 3), (.app 10 [(.var 3), (.var 4)])]), (.app 151 [(.var 0), (.app 10 [(.var 0), (.var 1)]), (.var 3), (.app 10 [(.var 3), (.var 4)])]), (.var 6), (.app 10 [(.var 6), (.var 7)])]), (.app 150 [(.var 9), (.app 10 [(.var 9), (.var 10)]), (.var 3), (.app 10 [(.var 3), (.var 4)])]), (.app 151 [(.var 9), (.app 10 [(.var 9), (.var 10)]), (.var 3), (.app 10 [(.var 3), (.var 4)])])]) (.lit 0)) (.neg (.and (.cmp .leq (.app 140 [(.app 150 [(.app 150 [(.var 0), (.app 10 [(.var 0), (.var 1)]), (.var 3), (.app 10 [(.var 3), (.var 4)])]), (.app 151 [(.var 0), (.app 10 [(.var 0), (.var 1)]), (.var 3), (.app 10 [(.var 3), (.var 4)])]), (.var 6), (.app 10 [(.var 6), (.var 7)])]), (.app 151 [(.app 150 [(.var 0), (.app 10 [(.var 0), (.var 1)]), (.var 3), (.app 10 [(.var 3), (.var 4)])]), (.app 151 [(.var 0), (.app 10 [(.var 0), (.var 1)]), (.var 3), (.app 10 [(.var 3), (.var 4)])]), (.var 6), (.app 10 [(.var 6), (.var 7)])]), (.app 150 [(.var 9), (.app 10 [(.var 9), (.var 10)]), (.var 3), (.app 10 [(.var 3), (.var 4)])]), (.app 151 [(.var 9), (.app 10 [(.var 9), (.var 10)]), (.var 3), (.app 10 [(.var 3), (.var 4)])])]) (.app 140 [(.app 150 [(.var 0), (.app 10 [(.var 0), (.var 1)]), (.var 3), (.app 10 [(.var 3), (.var 4)])]), (.app 151 [(.var 0), (.app 10 [(.var 0), (.var 1)]), (.var 3), (.app 10 [(.var 3), (.var 4)])]), (.var 9), (.app 10 [(.var 9), (.var 10)])])) (.cmp .leq (.app 141 [(.app 150 [(.var 0), (.app 10 [(.var 0), (.var 1)]), (.var 3), (.app 10 [(.var 3), (.var 4)])]), (.app 151 [(.var 0), (.app 10 [(.var 0), (.var 1)]), (.var 3), (.app 10 [(.var 3), (.var 4)])]), (.var 9), (.app 10 [(.var 9), (.var 10)])]) (.app 141 [(.app 150 [(.app 150 [(.var 0), (.app 10 [(.var 0), (.var 1)]), (.var 3), (.app 10 [(.var 3), (.var 4)])]), (.app 151 [(.var 0), (.app 10 [(.var 0), (.var 1)]), (.var 3), (.app 10 [(.var 3), (.var 4)])]), (.var 6), (.app 10 [(.var 6), (.var 7)])]), (.app 151 [(.app 150 [(.var 0), (.app 10 [(.var 0), (.var 1)]), (.var 3), (.app 10 [(.var 3), (.var 4)])]), (.app 151 [(.var 0), (.app 10 [(.var 0), (.var 1)]), (.var 3), (.app 10 [(.var 3), (.var 4)])]), (.var 6), (.app 10 [(.var 6), (.var 7)])]), (.app 150 [(.var 9), (.app 10 [(.var 9), (.var 10)]), (.var 3), (.app 10 [(.var 3), (.var 4)])]), (.app 151 [(.var 9), (.app 10 [(.var 9), (.var 10)]), (.var 3), (.app 10 [(.var 3), (.var 4)])])])))))) (.leaf (.bool (.lit false))) (.ite (.and (.cmp .eql (.app 142 [(.app 150 [(.app 150 [(.var 0), (.app 10 [(.var 0), (.var 1)]), (.var 3), (.app 10 [(.var 3), (.var 4)])]), (.app 151 [(.var 0), (.app 10 [(.var 0), (.var 1)]), (.var 3), (.app 10 [(.var 3), (.var 4)])]), (.var 6), (.app 10 [(.var 6), (.var 7)])]), (.app 151 [(.app 150 [(.var 0), (.app 10 [(.var 0), (.var 1)]), (.var 3), (.app 10 [(.var 3), (.var 4)])]), (.app 151 [(.var 0), (.app 10 [(.var 0), (.var 1)]), (.var 3), (.app 10 [(.var 3), (.var 4)])]), (.var 6), (.app 10 [(.var 6), (.var 7)])]), (.app 150 [(.var 9), (.app 10 [(.var 9), (.var 10)]), (.var 3), (.app 10 [(.var 3), (.var 4)])]), (.app 151 [(.var 9), (.app 10 [(.var 9), (.var 10)]), (.var 3), (.app 10 [(.var 3), (.var 4)])])]) (.lit 0)) (.and (.cmp .neq (.app 142 [(.app 150 [(.var 0), (.app 10 [(.var 0), (.var 1)]), (.var 3), (.app 10 [(.var 3), (.var 4)])]), (.app 151 [(.var 0), (.app 10 [(.var 0), (.var 1)]), (.var 3), (.app 10 [(.var 3), (.var 4)])]), (.var 9), (.app 10 [(.var 9), (.var 10)])]) (.lit 0)) (.neg (.cmp .eql (.app 142 [(.app 150 [(.var 0), (.app 10 [(.var 0), (.var 1)]), (.var 3), (.app 10 [(.var 3), (.var 4)])]), (.app 151 [(.var 0), (.app 10 [(.var 0), (.var 1)]), (.var 3), (.app 10 [(.var 3), (.var 4)])]), (.var 9), (.app 10 [(.var 9), (.var 10)])]) (.lit 5))))) (.leaf (.bool (.lit false))) (.need (.cmp .leq (.op .mn (.op .mx (.app 150 [(.var 0), (.app 10 [(.var 0), (.var 1)]), (.var 3), (.app 10 [(.var 3), (.var 4)])]) (.op .sub (.var 12) (.op .add (.var 13) (.lit 1)))) (.op .add (.var 12) (.op .add (.var 13) (.lit 1)))) (.op .mn (.op .mx (.app 151 [(.var 0), (.app 10 [(.var 0), (.var 1)]), (.var 3), (.app 10 [(.var 3), (.var 4)])]) (.op .sub (.var 12) (.op .add (.var 13) (.lit 1)))) (.op .add (.var 12) (.op .add (.var 13) (.lit 1))))) (.need (.cmp .leq (.op .mn (.op .mx (.app 150 [(.app 150 [(.var 0), (.app 10 [(.var 0), (.var 1)]), (.var 3), (.app 10 [(.var 3), (.var 4)])]), (.app 151 [(.var 0), (.app 10 [(.var 0), (.var 1)]), (.var 3), (.app 10 [(.var 3), (.var 4)])]), (.var 6), (.app 10 [(.var 6), (.var 7)])]) (.op .sub (.var 12) (.op .add (.var 13) (.lit 1)))) (.op .add (.var 12) (.op .add (.var 13) (.lit 1)))) (.op .mn (.op .mx (.app 151 [(.app 150 [(.var 0), (.app 10 [(.var 0), (.var 1)]), (.var 3), (.app 10 [(.var 3), (.var 4)])]), (.app 151 [(.var 0), (.app 10 [(.var 0), (.var 1)]), (.var 3), (.app 10 [(.var 3), (.var 4)])]), (.var 6), (.app 10 [(.var 6), (.var 7)])]) (.op .sub (.var 12) (.op .add (.var 13) (.lit 1)))) (.op .add (.var 12) (.op .add (.var 13) (.lit 1))))) (.leaf (.bool (.and (.cmp .leq (.op .mn (.op .mx (.app 150 [(.app 150 [(.var 0), (.app 10 [(.var 0), (.var 1)]), (.var 3), (.app 10 [(.var 3), (.var 4)])]), (.app 151 [(.var 0), (.app 10 [(.var 0), (.var 1)]), (.var 3), (.app 10 [(.var 3), (.var 4)])]), (.var 6), (.app 10 [(.var 6), (.var 7)])]) (.op .sub (.var 12) (.op .add (.var 13) (.lit 1)))) (.op .add (.var 12) (.op .add (.var 13) (.lit 1)))) (.op .mn (.op .mx (.app 150 [(.var 0), (.app 10 [(.var 0), (.var 1)]), (.var 3), (.app 10 [(.var 3), (.var 4)])]) (.op .sub (.var 12) (.op .add (.var 13) (.lit 1)))) (.op .add (.var 12) (.op .add (.var 13) (.lit 1))))) (.cmp .leq (.op .mn (.op .mx (.app 151 [(.var 0), (.app 10 [(.var 0), (.var 1)]), (.var 3), (.app 10 [(.var 3), (.var 4)])]) (.op .sub (.var 12) (.op .add (.var 13) (.lit 1)))) (.op .add (.var 12) (.op .add (.var 13) (.lit 1)))) (.op .mn (.op .mx (.app 151 [(.app 150 [(.var 0), (.app 10 [(.var 0), (.var 1)]), (.var 3), (.app 10 [(.var 3), (.var 4)])]), (.app 151 [(.var 0), (.app 10 [(.var 0), (.var 1)]), (.var 3), (.app 10 [(.var 3), (.var 4)])]), (.var 6), (.app 10 [(.var 6), (.var 7)])]) (.op .sub (.var 12) (.op .add (.var 13) (.lit 1)))) (.op .add (.var 12) (.op .add (.var 13) (.lit 1)))))))))))))))))))))
theorem tree_vt : tree.vt = vt := by kernel_rfl
theorem factsOK (xs0 : List Int) (xs1 : List Int) (xs2 : List Int) (xs3 : List Int) (xs4 : List Int) (xs5 : List Int) (w0 : Go.SX.wfL ks0 xs0) (w1 : Go.SX.wfL ks1 xs1) (w2 : Go.SX.wfL ks2 xs2) (w3 : Go.SX.wfL ks3 xs3) (w4 : Go.SX.wfL ks4 xs4) (w5 : Go.SX.wfL ks5 xs5) : ∀ be v, (be, v) ∈ facts → be.den (Go.SX.envOf (List.flatten ([xs0, xs1, xs2, xs3, xs4, xs5] : List (List Int))) fn) = v := by simp [facts]
theorem main (xs0 : List Int) (xs1 : List Int) (xs2 : List Int) (xs3 : List Int) (xs4 : List Int) (xs5 : List Int) (w0 : Go.SX.wfL ks0 xs0) (w1 : Go.SX.wfL ks1 xs1) (w2 : Go.SX.wfL ks2 xs2) (w3 : Go.SX.wfL ks3 xs3) (w4 : Go.SX.wfL ks4 xs4) (w5 : Go.SX.wfL ks5 xs5) : vt.holds (Go.SX.envOf (List.flatten ([xs0, xs1, xs2, xs3, xs4, xs5] : List (List Int))) fn) fun v => Go.SX.yes (Go.SX.envOf (List.flatten ([xs0, xs1, xs2, xs3, xs4, xs5] : List (List Int))) fn) v := by
  obtain ⟨a0, b0, c0, rfl, ha0, hb0, hc0⟩ := wf3s w0
  obtain ⟨a1, b1, c1, rfl, ha1, hb1, hc1⟩ := wf3s w1
  obtain ⟨a2, b2, c2, rfl, ha2, hb2, hc2⟩ := wf3s w2
  obtain ⟨a3, b3, c3, rfl, ha3, hb3, hc3⟩ := wf3s w3
  obtain ⟨n, _, rfl, gn, e⟩ := w4
  rw [show _ = ([] : List Int) from e]
  obtain ⟨k0, _, rfl, gk, e⟩ := w5
  rw [show _ = ([] : List Int) from e]
  have hn : -32768 ≤ n ∧ n ≤ 32767 := Go.SX.wf_rng (gn _ rfl)
  have hk : 0 ≤ k0 ∧ k0 ≤ 65535 := Go.SX.wf_rng (gk _ rfl)
  clear gn gk
  have e0 := hiS_bd ha0 hb0
  have e1 := hiS_bd ha1 hb1
  have e2 := hiS_bd ha2 hb2
  have e3 := hiS_bd ha3 hb3
  simp only [fn, vt, VT.holds, yes, den_blit, den_lit, den_var, den_ite, den_cmp, den_cmpB, den_tst, den_tstF, den_negT, den_negF, den_andT, den_andF, lssT, leqT, gtrT, geqT, eqlT, neqT, lssF, leqF, gtrF, geqF, eqlF, neqF, den_app, den_nilL, den_consL, den_add, den_sub, den_mul, den_tdiv, den_tmod, den_mx, den_mn, env_v, env_f, List.flatten_cons, List.flatten_nil, List.append_nil, List.cons_append, List.nil_append, List.getD_cons_zero, List.getD_cons_succ, List.getD_nil, q_hi, q_add0, q_add1, q_add2, q_sub0, q_sub1, q_sub2, q_hull0, q_hull1, q_hull2, q_meet0, q_meet1, q_meet2, q_mul0, q_mul1, q_mul2, q_div0, q_div1, q_div2, q_scale0, q_scale1, q_scale2, q_square0, q_square1, q_square2, q_clip0, q_clip1, q_clip2, q_grow0, q_grow1, q_grow2]
  generalize hiS a0 b0 = h0 at *
  generalize hiS a1 b1 = h1 at *
  generalize hiS a2 b2 = h2 at *
  generalize hiS a3 b3 = h3 at *
  have E1 := hullP_small (a := a0) (b := h0) (c := a1) (d := h1) (by omega) (by omega) (by omega) (by omega) (by omega) (by omega)
  have E2 := hullP_small (a := a3) (b := h3) (c := a1) (d := h1) (by omega) (by omega) (by omega) (by omega) (by omega) (by omega)
  rw [E1, E2]
  simp only
  generalize hI0 : min a0 a1 = I0 at *
  generalize hI1 : max h0 h1 = I1 at *
  generalize hR0 : min a3 a1 = R0 at *
  generalize hR1 : max h3 h1 = R1 at *
  have E3 := hullP_small (a := I0) (b := I1) (c := a2) (d := h2) (by omega) (by omega) (by omega) (by omega) (by omega) (by omega)
  rw [E3]
  simp only
  generalize hP0 : min I0 a2 = P0 at *
  generalize hP1 : max I1 h2 = P1 at *
  rw [scaleP_small (a := I0) (b := I1) (n := n) (k := k0 + 1) (by omega) (by omega) (by omega) (by omega) (by omega) (by omega) (by omega),
    scaleP_small (a := P0) (b := P1) (n := n) (k := k0 + 1) (by omega) (by omega) (by omega) (by omega) (by omega) (by omega) (by omega),
    mulP_small (a := I0) (b := I1) (c := a3) (d := h3) (k := k0 + 1) (by omega) (by omega) (by omega) (by omega) (by omega) (by omega) (by omega) (by omega),
    mulP_small (a := P0) (b := P1) (c := R0) (d := R1) (k := k0 + 1) (by omega) (by omega) (by omega) (by omega) (by omega) (by omega) (by omega) (by omega),
    squareP_small (a := I0) (b := I1) (k := k0 + 1) (by omega) (by omega) (by omega) (by omega) (by omega),
    squareP_small (a := P0) (b := P1) (k := k0 + 1) (by omega) (by omega) (by omega) (by omega) (by omega),
    divP_small (a := I0) (b := I1) (c := a3) (d := h3) (n := n) (by omega) (by omega) (by omega) (by omega) (by omega) (by omega) (by omega) (by omega),
    divP_small (a := P0) (b := P1) (c := R0) (d := R1) (n := n) (by omega) (by omega) (by omega) (by omega) (by omega) (by omega) (by omega) (by omega),
    meetP_small (a := I0) (b := I1) (c := a3) (d := h3) (by omega) (by omega) (by omega) (by omega) (by omega) (by omega),
    meetP_small (a := P0) (b := P1) (c := R0) (d := R1) (by omega) (by omega) (by omega) (by omega) (by omega) (by omega)]
  have s1 := sc_in (n := n) (k := k0 + 1) (show P0 ≤ I0 by omega) (show I0 ≤ I1 by omega) (show I1 ≤ P1 by omega) (by omega)
  have s2 := mu_in (k := k0 + 1) (show P0 ≤ I0 by omega) (show I0 ≤ I1 by omega) (show I1 ≤ P1 by omega) (show R0 ≤ a3 by omega) (show a3 ≤ h3 by omega) (show h3 ≤ R1 by omega) (by omega)
  have s3 := sq_in (k := k0 + 1) (show P0 ≤ I0 by omega) (show I0 ≤ I1 by omega) (show I1 ≤ P1 by omega) (by omega)
  have s4 : dvE R0 R1 = 0 → dvE a3 h3 = 0 ∧ dvL P0 P1 R0 R1 n ≤ dvL I0 I1 a3 h3 n ∧ dvH I0 I1 a3 h3 n ≤ dvH P0 P1 R0 R1 n :=
    dv_in (show P0 ≤ I0 by omega) (show I0 ≤ I1 by omega) (show I1 ≤ P1 by omega) (show R0 ≤ a3 by omega) (show a3 ≤ h3 by omega) (show h3 ≤ R1 by omega)
  have s5 : dvE R0 R1 = 0 ∨ dvE R0 R1 = 9 := by unfold dvE; split <;> simp
  simp only
  generalize scL I0 I1 n (k0 + 1) = x1 at *
  generalize scH I0 I1 n (k0 + 1) = x2 at *
  generalize scL P0 P1 n (k0 + 1) = x3 at *
  generalize scH P0 P1 n (k0 + 1) = x4 at *
  generalize muL I0 I1 a3 h3 (k0 + 1) = y1 at *
  generalize muH I0 I1 a3 h3 (k0 + 1) = y2 at *
  generalize muL P0 P1 R0 R1 (k0 + 1) = y3 at *
  generalize muH P0 P1 R0 R1 (k0 + 1) = y4 at *
  generalize sqL I0 I1 (k0 + 1) = z1 at *
  generalize sqH I0 I1 (k0 + 1) = z2 at *
  generalize sqL P0 P1 (k0 + 1) = z3 at *
  generalize sqH P0 P1 (k0 + 1) = z4 at *
  generalize dvL I0 I1 a3 h3 n = u1 at *
  generalize dvH I0 I1 a3 h3 n = u2 at *
  generalize dvL P0 P1 R0 R1 n = u3 at *
  generalize dvH P0 P1 R0 R1 n = u4 at *
  generalize dvE a3 h3 = u5 at *
  generalize dvE R0 R1 = u6 at *
  clear E1 E2 E3 w0 w1 w2 w3
  have p1 : P0 ≤ I0 ∧ I1 ≤ P1 ∧ R0 ≤ a3 ∧ h3 ≤ R1 ∧ I0 ≤ I1 ∧ a3 ≤ h3 := by omega
  clear hI0 hI1 hR0 hR1 hP0 hP1 ha0 ha1 ha2 ha3 hb0 hb1 hb2 hb3 hc0 hc1 hc2 hc3 e0 e1 e2 e3
  refine ⟨by omega, by omega, ?_⟩
  refine ⟨fun h => by exfalso; omega, fun h => ?_⟩
  clear h
  refine ⟨fun h => by exfalso; omega, fun h => ?_⟩
  clear h
  refine ⟨fun h => by exfalso; omega, fun h => ?_⟩
  clear h
  refine ⟨fun h => by exfalso; omega, fun h => ?_⟩
  clear h
  refine ⟨fun h => by exfalso; omega, fun h => ?_⟩
  clear h
  refine ⟨fun h => by exfalso; omega, fun h => ?_⟩
  clear h
  refine ⟨fun h => by exfalso; omega, fun h => ?_⟩
  clear h
  clear s1 s2 s3 s4 s5
  by_cases hm : max I0 a3 ≤ min I1 h3
  · have hm2 : max P0 R0 ≤ min P1 R1 := by omega
    rw [if_pos hm, if_pos hm2]
    simp only
    refine ⟨fun h => by exfalso; omega, fun h => ?_⟩
    clear h
    refine ⟨fun h => by exfalso; omega, fun h => ?_⟩
    clear h
    exact ⟨by omega, by omega, by omega, by omega⟩
  · rw [if_neg hm]
    by_cases hm2 : max P0 R0 ≤ min P1 R1
    · rw [if_pos hm2]
      simp only
      refine ⟨fun h => by exfalso; omega, fun h => ?_⟩
      clear h
      refine ⟨fun h => by exfalso; omega, fun h => ?_⟩
      clear h
      exact ⟨by omega, by omega, by omega, by omega⟩
    · rw [if_neg hm2]
      simp only
      refine ⟨fun h => by exfalso; omega, fun h => ?_⟩
      clear h
      refine ⟨fun h => by exfalso; omega, fun h => ?_⟩
      clear h
      exact ⟨by omega, by omega, by omega, by omega⟩
theorem walk (xs0 : List Int) (xs1 : List Int) (xs2 : List Int) (xs3 : List Int) (xs4 : List Int) (xs5 : List Int) (w0 : Go.SX.wfL ks0 xs0) (w1 : Go.SX.wfL ks1 xs1) (w2 : Go.SX.wfL ks2 xs2) (w3 : Go.SX.wfL ks3 xs3) (w4 : Go.SX.wfL ks4 xs4) (w5 : Go.SX.wfL ks5 xs5) (w : World) :
    Calls Try.prog 9 #[.agg (Go.SX.valsL ks0 xs0).toArray, .agg (Go.SX.valsL ks1 xs1).toArray, .agg (Go.SX.valsL ks2 xs2).toArray, .agg (Go.SX.valsL ks3 xs3).toArray, (Go.SX.valsL ks4 xs4).getD 0 undef, (Go.SX.valsL ks5 xs5).getD 0 undef] w fun e w' => e = .returned (.bool true) ∧ Below w.heap.size w w' :=
  Go.SX.calls_facts (P := Try.prog) (X := X) (l := sig) (r := [xs0, xs1, xs2, xs3, xs4, xs5]) (fn := fn) (n := 100000) (f := 9) (w := w) (facts := facts) (d := 0) mix XOK (⟨xs0, _, rfl, w0, (fun h => by cases h), ⟨xs1, _, rfl, w1, (fun h => by cases h), ⟨xs2, _, rfl, w2, (fun h => by cases h), ⟨xs3, _, rfl, w3, (fun h => by cases h), ⟨xs4, _, rfl, w4, (fun _ => rfl), ⟨xs5, _, rfl, w5, (fun _ => rfl), rfl⟩⟩⟩⟩⟩⟩) (factsOK xs0 xs1 xs2 xs3 xs4 xs5 w0 w1 w2 w3 w4 w5) tree_eq
    (Go.SX.PT.holds_vt (by rw [tree_vt]; exact main xs0 xs1 xs2 xs3 xs4 xs5 w0 w1 w2 w3 w4 w5))

set_option maxRecDepth 100000 in
theorem lifted (os : Os) (started : os.Started) (H : Type) (enc : TypeId × Value → H) :
    ReturnsInHanded {} Try.checked os 9 .any (Rows.quantityInnerSpec.pre6 enc Try.prog Try.f9 Rows.quantityInnerRow.domain false) (Rows.quantityInnerSpec.post enc Try.prog Try.f9 false true false false) := by
  refine returnsInHanded_of_change (C := Try.checked) own started (by kernel_rfl) Try.func9
    (ChangeSpec.witness6 (enc := enc) (C := Try.checked) false ⟨#[], #[.agg #[.int .i16 0, .int .i16 0, .int .u16 0], .agg #[.int .i16 0, .int .i16 0, .int .u16 0], .agg #[.int .i16 0, .int .i16 0, .int .u16 0], .agg #[.int .i16 0, .int .i16 0, .int .u16 0], .int .i16 0, .int .u16 0], []⟩ 8 (by kernel_rfl) (by kernel_rfl) (by kernel_rfl) (by kernel_rfl)) ?_
  intro W base args ds gs before hval0 hW hcnd _
  have hval : ∀ (j : Nat) t v, Try.f9.params[j]? = some t → args[j]? = some v → Value.okWide Try.prog W .any base t v := hval0
  have hW' := hW
  obtain ⟨p, q, hA0, hV, rfl, hfz, hnd⟩ := hW
  have hA : DataW.TrodAll enc Try.prog W 0 (fun _ => true) true Try.f9.params.toList args.toList ds p := hA0
  rw [Try.params9] at hA hval
  obtain ⟨v0, vs0, d0, ds0, p0, q0, hargs, rfl, rfl, h0, r0⟩ := trodAll_cons hA
  obtain ⟨v1, vs1, d1, ds1, p1, q1, rfl, rfl, rfl, h1, r1⟩ := trodAll_cons r0
  obtain ⟨v2, vs2, d2, ds2, p2, q2, rfl, rfl, rfl, h2, r2⟩ := trodAll_cons r1
  obtain ⟨v3, vs3, d3, ds3, p3, q3, rfl, rfl, rfl, h3, r3⟩ := trodAll_cons r2
  obtain ⟨v4, vs4, d4, ds4, p4, q4, rfl, rfl, rfl, h4, r4⟩ := trodAll_cons r3
  obtain ⟨v5, vs5, d5, ds5, p5, q5, rfl, rfl, rfl, h5, r5⟩ := trodAll_cons r4
  obtain ⟨rfl, rfl, rfl⟩ := trodAll_nil r5
  obtain rfl : args = #[v0, v1, v2, v3, v4, v5] := by cases args; simp_all
  obtain ⟨rfl, rfl⟩ := trodVars_none hV
  have k0 := h0
  have lt0 : ∀ x ∈ p0, x.block < W.heap.size := by obtain ⟨m, hm⟩ := k0; exact DataW.trod_lt m _ _ _ hm
  obtain ⟨xs0, rfl, w0⟩ := Go.SX.open_flat Try.underlying64 40 (ks := ks0) (by kernel_rfl) (by kernel_rfl) (hval 0 64 v0 rfl rfl) h0
  have k1 := h1
  have lt1 : ∀ x ∈ p1, x.block < W.heap.size := by obtain ⟨m, hm⟩ := k1; exact DataW.trod_lt m _ _ _ hm
  obtain ⟨xs1, rfl, w1⟩ := Go.SX.open_flat Try.underlying64 40 (ks := ks1) (by kernel_rfl) (by kernel_rfl) (hval 1 64 v1 rfl rfl) h1
  have k2 := h2
  have lt2 : ∀ x ∈ p2, x.block < W.heap.size := by obtain ⟨m, hm⟩ := k2; exact DataW.trod_lt m _ _ _ hm
  obtain ⟨xs2, rfl, w2⟩ := Go.SX.open_flat Try.underlying64 40 (ks := ks2) (by kernel_rfl) (by kernel_rfl) (hval 2 64 v2 rfl rfl) h2
  have k3 := h3
  have lt3 : ∀ x ∈ p3, x.block < W.heap.size := by obtain ⟨m, hm⟩ := k3; exact DataW.trod_lt m _ _ _ hm
  obtain ⟨xs3, rfl, w3⟩ := Go.SX.open_flat Try.underlying64 40 (ks := ks3) (by kernel_rfl) (by kernel_rfl) (hval 3 64 v3 rfl rfl) h3
  have k4 := h4
  have lt4 : ∀ x ∈ p4, x.block < W.heap.size := by obtain ⟨m, hm⟩ := k4; exact DataW.trod_lt m _ _ _ hm
  obtain ⟨xs4, rfl, w4⟩ := Go.SX.open_flat1 (k := some .i16) Try.underlying61 (hval 4 61 v4 rfl rfl) h4
  have k5 := h5
  have lt5 : ∀ x ∈ p5, x.block < W.heap.size := by obtain ⟨m, hm⟩ := k5; exact DataW.trod_lt m _ _ _ hm
  obtain ⟨xs5, rfl, w5⟩ := Go.SX.open_flat1 (k := some .u16) Try.underlying62 (hval 5 62 v5 rfl rfl) h5
  clear hA0 hval0
  refine (walk xs0 xs1 xs2 xs3 xs4 xs5 w0 w1 w2 w3 w4 w5 W).mono fun e W' ⟨he, bel⟩ => ?_
  subst he
  exact ⟨_, rfl, _, _, _, [], _, [], hW', trodAll_mk1 (shut_bool Try.underlying4 _), (trodAll_cons_mk (Below.trod laidOut (by kernel_rfl) (of_decide_eq_true (by kernel_rfl)) k0 bel lt0) (trodAll_cons_mk (Below.trod laidOut (by kernel_rfl) (of_decide_eq_true (by kernel_rfl)) k1 bel lt1) (trodAll_cons_mk (Below.trod laidOut (by kernel_rfl) (of_decide_eq_true (by kernel_rfl)) k2 bel lt2) (trodAll_cons_mk (Below.trod laidOut (by kernel_rfl) (of_decide_eq_true (by kernel_rfl)) k3 bel lt3) (trodAll_cons_mk (Below.trod laidOut (by kernel_rfl) (of_decide_eq_true (by kernel_rfl)) k4 bel lt4) (trodAll_cons_mk (Below.trod laidOut (by kernel_rfl) (of_decide_eq_true (by kernel_rfl)) k5 bel lt5) trodAll_mk0)))))), rfl, bel.frame _, fun h => by cases h⟩

theorem over : Rows.quantityInnerRow.holds Try.pinned (OpenSpec.ofChange Rows.quantityInnerSpec) :=
  OpenClaim.holds_of_wide 9 Try.f9 rfl rfl rfl rfl rfl rfl rfl ⟨rfl, rfl, rfl, rfl, rfl⟩ rfl rfl rfl rfl rfl (by kernel_rfl) Try.func9 (by kernel_rfl)
    (of_decide_eq_true (by kernel_rfl)) (by unfold Func.isWrapper; first | (rw [if_pos (by decide +kernel)]; kernel_rfl) | (rw [if_neg (by decide +kernel)]; exact ⟨rfl, rfl⟩))
    (fun os started H enc _ => lifted os started H enc)

/-- THE STATEMENT -/
theorem proved : Rows.QuantityInnerSaid := over
#print axioms proved
end Go.Proofs.Ytlaalhbicblbeaa.quantityInner
