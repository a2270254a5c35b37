/- The law QuantityTight answers true for every input: both ends of a product, a quotient, a multiple and a square come from ends of the spans, or from 0; no condition beyond the row's own. -/
import Derived.Test.YtlaalhbicblbeaaRows
import Derived.WalkKit
import Derived.ProofKit
import Derived.OpenShut
import Derived.Below
import Derived.ChangeOld
import Derived.Test.YtlaalhbicblbeaaSy24
import Derived.Test.YtlaalhbicblbeaaSy25
import Derived.Test.YtlaalhbicblbeaaQib
namespace Go.Proofs.Ytlaalhbicblbeaa.quantityTight
open Go.ChangeShapes Go.WideShapes Go.ChangeAt Go.RowKit
set_option linter.unusedVariables false
set_option linter.unusedSimpArgs false

theorem own : ownKnob Try.prog.godebug = none := by kernel_rfl
theorem laidOut : laidOutB Try.prog = true := by kernel_rfl
theorem mix : Try.prog.follows .mixedOrders = true := by kernel_rfl
def ks0 : List (Option IntKind) := [some .i16, some .i16, some .u16]
def ks1 : List (Option IntKind) := [some .i16, some .i16, some .u16]
def ks2 : List (Option IntKind) := [some .i16]
def ks3 : List (Option IntKind) := [some .u16]
def sig : List (Bool × List (Option IntKind)) := [(true, ks0), (true, ks1), (false, ks2), (false, ks3)]
open Go.SX QI
set_option maxRecDepth 100000
theorem den_blit (env : Env) (b : Bool) : (BE.lit b).den env = b := rfl
theorem t1 (p : Prop) [Decidable p] : ((if p then (1 : Int) else 0) = 0) = ¬ p := by by_cases h : p <;> simp [h]
theorem t3 (p : Prop) [Decidable p] (x : Int) : ((if p then x else (1 : Int)) = 0) = (p ∧ x = 0) := by by_cases h : p <;> simp [h]
theorem t4 (p : Prop) [Decidable p] : ((if p then (0 : Int) else 1) = 0) = p := by by_cases h : p <;> simp [h]
noncomputable def fn : Nat → List Int → Int := Ytlaalhbicblbeaa.sfn
def X : Go.SX.Par := parT
theorem XOK : Go.SX.ParOK Try.prog fn X := parT_ok
def facts : List (Go.SX.BE × Bool) := []
/-- what the call comes to -/
noncomputable def tree : Go.SX.PT := Go.SX.run (Go.SX.callT Try.prog X 100000 8 (Go.SX.symAll sig 0) (Go.SX.ctxF sig facts 0)) Go.SX.st0
theorem tree_eq : Go.SX.run (Go.SX.callT Try.prog X 100000 8 (Go.SX.symAll sig 0) (Go.SX.ctxF sig facts 0)) Go.SX.st0 = tree := rfl
attribute [irreducible] tree
set_option maxRecDepth 100000 in
def vt : Go.SX.VT := (.ite (.tst (.ite (.cmp .lss (.op .mul (.var 0) (.var 3)) (.op .mul (.app 120 [(.var 0), (.app 10 [(.var 0), (.var 1)]), (.var 3), (.app 10 [(.var 3), (.var 4)]), (.op .add (.var 7) (.lit 1))]) (.op .add (.var 7) (.lit 1)))) (.lit 1) (.cmp .gtr (.op .mul (.var 0) (.var 3)) (.op .mul (.app 121 [(.var 0), (.app 10 [(.var 0), (.var 1)]), (.var 3), (.app 10 [(.var 3), (.var 4)]), (.op .add (.var 7) (.lit 1))]) (.op .add (.var 7) (.lit 1)))))) (.leaf (.bool (.lit false))) (.ite (.tst (.ite (.cmp .lss (.op .mul (.var 0) (.app 10 [(.var 3), (.var 4)])) (.op .mul (.app 120 [(.var 0), (.app 10 [(.var 0), (.var 1)]), (.var 3), (.app 10 [(.var 3), (.var 4)]), (.op .add (.var 7) (.lit 1))]) (.op .add (.var 7) (.lit 1)))) (.lit 1) (.cmp .gtr (.op .mul (.var 0) (.app 10 [(.var 3), (.var 4)])) (.op .mul (.app 121 [(.var 0), (.app 10 [(.var 0), (.var 1)]), (.var 3), (.app 10 [(.var 3), (.var 4)]), (.op .add (.var 7) (.lit 1))]) (.op .add (.var 7) (.lit 1)))))) (.leaf (.bool (.lit false))) (.ite (.tst (.ite (.cmp .lss (.op .mul (.app 10 [(.var 0), (.var 1)]) (.var 3)) (.op .mul (.app 120 [(.var 0), (.app 10 [(.var 0), (.var 1)]), (.var 3), (.app 10 [(.var 3), (.var 4)]), (.op .add (.var 7) (.lit 1))]) (.op .add (.var 7) (.lit 1)))) (.lit 1) (.cmp .gtr (.op .mul (.app 10 [(.var 0), (.var 1)]) (.var 3)) (.op .mul (.app 121 [(.var 0), (.app 10 [(.var 0), (.var 1)]), (.var 3), (.app 10 [(.var 3), (.var 4)]), (.op .add (.var 7) (.lit 1))]) (.op .add (.var 7) (.lit 1)))))) (.leaf (.bool (.lit false))) (.ite (.tst (.ite (.cmp .lss (.op .mul (.app 10 [(.var 0), (.var 1)]) (.app 10 [(.var 3), (.var 4)])) (.op .mul (.app 120 [(.var 0), (.app 10 [(.var 0), (.var 1)]), (.var 3), (.app 10 [(.var 3), (.var 4)]), (.op .add (.var 7) (.lit 1))]) (.op .add (.var 7) (.lit 1)))) (.lit 1) (.cmp .gtr (.op .mul (.app 10 [(.var 0), (.var 1)]) (.app 10 [(.var 3), (.var 4)])) (.op .mul (.app 121 [(.var 0), (.app 10 [(.var 0), (.var 1)]), (.var 3), (.app 10 [(.var 3), (.var 4)]), (.op .add (.var 7) (.lit 1))]) (.op .add (.var 7) (.lit 1)))))) (.leaf (.bool (.lit false))) (.ite (.neg (.and (.tst (.ite (.ite (.ite (.ite (.ite (.cmp .lss (.op .mul (.var 0) (.var 3)) (.op .mul (.op .add (.app 120 [(.var 0), (.app 10 [(.var 0), (.var 1)]), (.var 3), (.app 10 [(.var 3), (.var 4)]), (.op .add (.var 7) (.lit 1))]) (.lit 1)) (.op .add (.var 7) (.lit 1)))) (.lit 1) (.cmp .lss (.op .mul (.var 0) (.app 10 [(.var 3), (.var 4)])) (.op .mul (.op .add (.app 120 [(.var 0), (.app 10 [(.var 0), (.var 1)]), (.var 3), (.app 10 [(.var 3), (.var 4)]), (.op .add (.var 7) (.lit 1))]) (.lit 1)) (.op .add (.var 7) (.lit 1))))) (.lit 1) (.lit 0)) (.lit 1) (.cmp .lss (.op .mul (.app 10 [(.var 0), (.var 1)]) (.var 3)) (.op .mul (.op .add (.app 120 [(.var 0), (.app 10 [(.var 0), (.var 1)]), (.var 3), (.app 10 [(.var 3), (.var 4)]), (.op .add (.var 7) (.lit 1))]) (.lit 1)) (.op .add (.var 7) (.lit 1))))) (.lit 1) (.lit 0)) (.lit 1) (.cmp .lss (.op .mul (.app 10 [(.var 0), (.var 1)]) (.app 10 [(.var 3), (.var 4)])) (.op .mul (.op .add (.app 120 [(.var 0), (.app 10 [(.var 0), (.var 1)]), (.var 3), (.app 10 [(.var 3), (.var 4)]), (.op .add (.var 7) (.lit 1))]) (.lit 1)) (.op .add (.var 7) (.lit 1)))))) (.tst (.ite (.ite (.ite (.ite (.ite (.cmp .gtr (.op .mul (.var 0) (.var 3)) (.op .mul (.op .sub (.app 121 [(.var 0), (.app 10 [(.var 0), (.var 1)]), (.var 3), (.app 10 [(.var 3), (.var 4)]), (.op .add (.var 7) (.lit 1))]) (.lit 1)) (.op .add (.var 7) (.lit 1)))) (.lit 1) (.cmp .gtr (.op .mul (.var 0) (.app 10 [(.var 3), (.var 4)])) (.op .mul (.op .sub (.app 121 [(.var 0), (.app 10 [(.var 0), (.var 1)]), (.var 3), (.app 10 [(.var 3), (.var 4)]), (.op .add (.var 7) (.lit 1))]) (.lit 1)) (.op .add (.var 7) (.lit 1))))) (.lit 1) (.lit 0)) (.lit 1) (.cmp .gtr (.op .mul (.app 10 [(.var 0), (.var 1)]) (.var 3)) (.op .mul (.op .sub (.app 121 [(.var 0), (.app 10 [(.var 0), (.var 1)]), (.var 3), (.app 10 [(.var 3), (.var 4)]), (.op .add (.var 7) (.lit 1))]) (.lit 1)) (.op .add (.var 7) (.lit 1))))) (.lit 1) (.lit 0)) (.lit 1) (.cmp .gtr (.op .mul (.app 10 [(.var 0), (.var 1)]) (.app 10 [(.var 3), (.var 4)])) (.op .mul (.op .sub (.app 121 [(.var 0), (.app 10 [(.var 0), (.var 1)]), (.var 3), (.app 10 [(.var 3), (.var 4)]), (.op .add (.var 7) (.lit 1))]) (.lit 1)) (.op .add (.var 7) (.lit 1)))))))) (.leaf (.bool (.lit false))) (.ite (.tst (.ite (.cmp .lss (.op .mul (.var 0) (.var 6)) (.op .mul (.app 170 [(.var 0), (.app 10 [(.var 0), (.var 1)]), (.var 6), (.op .add (.var 7) (.lit 1))]) (.op .add (.var 7) (.lit 1)))) (.lit 1) (.cmp .gtr (.op .mul (.var 0) (.var 6)) (.op .mul (.app 171 [(.var 0), (.app 10 [(.var 0), (.var 1)]), (.var 6), (.op .add (.var 7) (.lit 1))]) (.op .add (.var 7) (.lit 1)))))) (.leaf (.bool (.lit false))) (.ite (.tst (.ite (.cmp .lss (.op .mul (.app 10 [(.var 0), (.var 1)]) (.var 6)) (.op .mul (.app 170 [(.var 0), (.app 10 [(.var 0), (.var 1)]), (.var 6), (.op .add (.var 7) (.lit 1))]) (.op .add (.var 7) (.lit 1)))) (.lit 1) (.cmp .gtr (.op .mul (.app 10 [(.var 0), (.var 1)]) (.var 6)) (.op .mul (.app 171 [(.var 0), (.app 10 [(.var 0), (.var 1)]), (.var 6), (.op .add (.var 7) (.lit 1))]) (.op .add (.var 7) (.lit 1)))))) (.leaf (.bool (.lit false))) (.ite (.neg (.and (.tst (.ite (.cmp .lss (.op .mul (.var 0) (.var 6)) (.op .mul (.op .add (.app 170 [(.var 0), (.app 10 [(.var 0), (.var 1)]), (.var 6), (.op .add (.var 7) (.lit 1))]) (.lit 1)) (.op .add (.var 7) (.lit 1)))) (.lit 1) (.cmp .lss (.op .mul (.app 10 [(.var 0), (.var 1)]) (.var 6)) (.op .mul (.op .add (.app 170 [(.var 0), (.app 10 [(.var 0), (.var 1)]), (.var 6), (.op .add (.var 7) (.lit 1))]) (.lit 1)) (.op .add (.var 7) (.lit 1)))))) (.tst (.ite (.cmp .gtr (.op .mul (.var 0) (.var 6)) (.op .mul (.op .sub (.app 171 [(.var 0), (.app 10 [(.var 0), (.var 1)]), (.var 6), (.op .add (.var 7) (.lit 1))]) (.lit 1)) (.op .add (.var 7) (.lit 1)))) (.lit 1) (.cmp .gtr (.op .mul (.app 10 [(.var 0), (.var 1)]) (.var 6)) (.op .mul (.op .sub (.app 171 [(.var 0), (.app 10 [(.var 0), (.var 1)]), (.var 6), (.op .add (.var 7) (.lit 1))]) (.lit 1)) (.op .add (.var 7) (.lit 1)))))))) (.leaf (.bool (.lit false))) (.ite (.tst (.ite (.cmp .lss (.op .mul (.var 0) (.var 0)) (.op .mul (.app 180 [(.var 0), (.app 10 [(.var 0), (.var 1)]), (.op .add (.var 7) (.lit 1))]) (.op .add (.var 7) (.lit 1)))) (.lit 1) (.cmp .gtr (.op .mul (.var 0) (.var 0)) (.op .mul (.app 181 [(.var 0), (.app 10 [(.var 0), (.var 1)]), (.op .add (.var 7) (.lit 1))]) (.op .add (.var 7) (.lit 1)))))) (.leaf (.bool (.lit false))) (.ite (.tst (.ite (.cmp .lss (.op .mul (.app 10 [(.var 0), (.var 1)]) (.app 10 [(.var 0), (.var 1)])) (.op .mul (.app 180 [(.var 0), (.app 10 [(.var 0), (.var 1)]), (.op .add (.var 7) (.lit 1))]) (.op .add (.var 7) (.lit 1)))) (.lit 1) (.cmp .gtr (.op .mul (.app 10 [(.var 0), (.var 1)]) (.app 10 [(.var 0), (.var 1)])) (.op .mul (.app 181 [(.var 0), (.app 10 [(.var 0), (.var 1)]), (.op .add (.var 7) (.lit 1))]) (.op .add (.var 7) (.lit 1)))))) (.leaf (.bool (.lit false))) (.ite (.tst (.ite (.cmp .lss (.op .mul (.op .mn (.op .mx (.var 0) (.lit 0)) (.app 10 [(.var 0), (.var 1)])) (.op .mn (.op .mx (.var 0) (.lit 0)) (.app 10 [(.var 0), (.var 1)]))) (.op .mul (.app 180 [(.var 0), (.app 10 [(.var 0), (.var 1)]), (.op .add (.var 7) (.lit 1))]) (.op .add (.var 7) (.lit 1)))) (.lit 1) (.cmp .gtr (.op .mul (.op .mn (.op .mx (.var 0) (.lit 0)) (.app 10 [(.var 0), (.var 1)])) (.op .mn (.op .mx (.var 0) (.lit 0)) (.app 10 [(.var 0), (.var 1)]))) (.op .mul (.app 181 [(.var 0), (.app 10 [(.var 0), (.var 1)]), (.op .add (.var 7) (.lit 1))]) (.op .add (.var 7) (.lit 1)))))) (.leaf (.bool (.lit false))) (.ite (.neg (.and (.tst (.ite (.ite (.ite (.cmp .lss (.op .mul (.var 0) (.var 0)) (.op .mul (.op .add (.app 180 [(.var 0), (.app 10 [(.var 0), (.var 1)]), (.op .add (.var 7) (.lit 1))]) (.lit 1)) (.op .add (.var 7) (.lit 1)))) (.lit 1) (.cmp .lss (.op .mul (.app 10 [(.var 0), (.var 1)]) (.app 10 [(.var 0), (.var 1)])) (.op .mul (.op .add (.app 180 [(.var 0), (.app 10 [(.var 0), (.var 1)]), (.op .add (.var 7) (.lit 1))]) (.lit 1)) (.op .add (.var 7) (.lit 1))))) (.lit 1) (.lit 0)) (.lit 1) (.cmp .lss (.op .mul (.op .mn (.op .mx (.var 0) (.lit 0)) (.app 10 [(.var 0), (.var 1)])) (.op .mn (.op .mx (.var 0) (.lit 0)) (.app 10 [(.var 0), (.var 1)]))) (.op .mul (.op .add (.app 180 [(.var 0), (.app 10 [(.var 0), (.var 1)]), (.op .add (.var 7) (.lit 1))]) (.lit 1)) (.op .add (.var 7) (.lit 1)))))) (.tst (.ite (.ite (.ite (.cmp .gtr (.op .mul (.var 0) (.var 0)) (.op .mul (.op .sub (.app 181 [(.var 0), (.app 10 [(.var 0), (.var 1)]), (.op .add (.var 7) (.lit 1))]) (.lit 1)) (.op .add (.var 7) (.lit 1)))) (.lit 1) (.cmp .gtr (.op .mul (.app 10 [(.var 0), (.var 1)]) (.app 10 [(.var 0), (.var 1)])) (.op .mul (.op .sub (.app 181 [(.var 0), (.app 10 [(.var 0), (.var 1)]), (.op .add (.var 7) (.lit 1))]) (.lit 1)) (.op .add (.var 7) (.lit 1))))) (.lit 1) (.lit 0)) (.lit 1) (.cmp .gtr (.op .mul (.op .mn (.op .mx (.var 0) (.lit 0)) (.app 10 [(.var 0), (.var 1)])) (.op .mn (.op .mx (.var 0) (.lit 0)) (.app 10 [(.var 0), (.var 1)]))) (.op .mul (.op .sub (.app 181 [(.var 0), (.app 10 [(.var 0), (.var 1)]), (.op .add (.var 7) (.lit 1))]) (.lit 1)) (.op .add (.var 7) (.lit 1)))))))) (.leaf (.bool (.lit false))) (.ite (.cmp .leq (.var 3) (.lit 0)) (.ite (.cmp .geq (.app 10 [(.var 3), (.var 4)]) (.lit 0)) (.ite (.cmp .eql (.app 132 [(.var 0), (.app 10 [(.var 0), (.var 1)]), (.var 3), (.app 10 [(.var 3), (.var 4)]), (.var 6)]) (.lit 9)) (.leaf (.bool (.lit true))) (.leaf (.bool (.lit false)))) (.ite (.cmp .eql (.app 132 [(.var 0), (.app 10 [(.var 0), (.var 1)]), (.var 3), (.app 10 [(.var 3), (.var 4)]), (.var 6)]) (.lit 0)) (.ite (.tst (.ite (.cmp .lss (.op .sub (.lit 0) (.op .mul (.var 0) (.var 6))) (.op .mul (.app 130 [(.var 0), (.app 10 [(.var 0), (.var 1)]), (.var 3), (.app 10 [(.var 3), (.var 4)]), (.var 6)]) (.op .sub (.lit 0) (.var 3)))) (.lit 1) (.cmp .gtr (.op .sub (.lit 0) (.op .mul (.var 0) (.var 6))) (.op .mul (.app 131 [(.var 0), (.app 10 [(.var 0), (.var 1)]), (.var 3), (.app 10 [(.var 3), (.var 4)]), (.var 6)]) (.op .sub (.lit 0) (.var 3)))))) (.leaf (.bool (.lit false))) (.ite (.tst (.ite (.cmp .lss (.op .sub (.lit 0) (.op .mul (.var 0) (.var 6))) (.op .mul (.app 130 [(.var 0), (.app 10 [(.var 0), (.var 1)]), (.var 3), (.app 10 [(.var 3), (.var 4)]), (.var 6)]) (.op .sub (.lit 0) (.app 10 [(.var 3), (.var 4)])))) (.lit 1) (.cmp .gtr (.op .sub (.lit 0) (.op .mul (.var 0) (.var 6))) (.op .mul (.app 131 [(.var 0), (.app 10 [(.var 0), (.var 1)]), (.var 3), (.app 10 [(.var 3), (.var 4)]), (.var 6)]) (.op .sub (.lit 0) (.app 10 [(.var 3), (.var 4)])))))) (.leaf (.bool (.lit false))) (.ite (.tst (.ite (.cmp .lss (.op .sub (.lit 0) (.op .mul (.app 10 [(.var 0), (.var 1)]) (.var 6))) (.op .mul (.app 130 [(.var 0), (.app 10 [(.var 0), (.var 1)]), (.var 3), (.app 10 [(.var 3), (.var 4)]), (.var 6)]) (.op .sub (.lit 0) (.var 3)))) (.lit 1) (.cmp .gtr (.op .sub (.lit 0) (.op .mul (.app 10 [(.var 0), (.var 1)]) (.var 6))) (.op .mul (.app 131 [(.var 0), (.app 10 [(.var 0), (.var 1)]), (.var 3), (.app 10 [(.var 3), (.var 4)]), (.var 6)]) (.op .sub (.lit 0) (.var 3)))))) (.leaf (.bool (.lit false))) (.ite (.tst (.ite (.cmp .lss (.op .sub (.lit 0) (.op .mul (.app 10 [(.var 0), (.var 1)]) (.var 6))) (.op .mul (.app 130 [(.var 0), (.app 10 [(.var 0), (.var 1)]), (.var 3), (.app 10 [(.var 3), (.var 4)]), (.var 6)]) (.op .sub (.lit 0) (.app 10 [(.var 3), (.var 4)])))) (.lit 1) (.cmp .gtr (.op .sub (.lit 0) (.op .mul (.app 10 [(.var 0), (.var 1)]) (.var 6))) (.op .mul (.app 131 [(.var 0), (.app 10 [(.var 0), (.var 1)]), (.var 3), (.app 10 [(.var 3), (.var 4)]), (.var 6)]) (.op .sub (.lit 0) (.app 10 [(.var 3), (.var 4)])))))) (.leaf (.bool (.lit false))) (.ite (.and (.tst (.ite (.ite (.ite (.ite (.ite (.cmp .lss (.op .sub (.lit 0) (.op .mul (.var 0) (.var 6))) (.op .mul (.op .add (.app 130 [(.var 0), (.app 10 [(.var 0), (.var 1)]), (.var 3), (.app 10 [(.var 3), (.var 4)]), (.var 6)]) (.lit 1)) (.op .sub (.lit 0) (.var 3)))) (.lit 1) (.cmp .lss (.op .sub (.lit 0) (.op .mul (.var 0) (.var 6))) (.op .mul (.op .add (.app 130 [(.var 0), (.app 10 [(.var 0), (.var 1)]), (.var 3), (.app 10 [(.var 3), (.var 4)]), (.var 6)]) (.lit 1)) (.op .sub (.lit 0) (.app 10 [(.var 3), (.var 4)]))))) (.lit 1) (.lit 0)) (.lit 1) (.cmp .lss (.op .sub (.lit 0) (.op .mul (.app 10 [(.var 0), (.var 1)]) (.var 6))) (.op .mul (.op .add (.app 130 [(.var 0), (.app 10 [(.var 0), (.var 1)]), (.var 3), (.app 10 [(.var 3), (.var 4)]), (.var 6)]) (.lit 1)) (.op .sub (.lit 0) (.var 3))))) (.lit 1) (.lit 0)) (.lit 1) (.cmp .lss (.op .sub (.lit 0) (.op .mul (.app 10 [(.var 0), (.var 1)]) (.var 6))) (.op .mul (.op .add (.app 130 [(.var 0), (.app 10 [(.var 0), (.var 1)]), (.var 3), (.app 10 [(.var 3), (.var 4)]), (.var 6)]) (.lit 1)) (.op .sub (.lit 0) (.app 10 [(.var 3), (.var 4)])))))) (.tst (.ite (.ite (.ite (.ite (.ite (.cmp .gtr (.op .sub (.lit 0) (.op .mul (.var 0) (.var 6))) (.op .mul (.op .sub (.app 131 [(.var 0), (.app 10 [(.var 0), (.var 1)]), (.var 3), (.app 10 [(.var 3), (.var 4)]), (.var 6)]) (.lit 1)) (.op .sub (.lit 0) (.var 3)))) (.lit 1) (.cmp .gtr (.op .sub (.lit 0) (.op .mul (.var 0) (.var 6))) (.op .mul (.op .sub (.app 131 [(.var 0), (.app 10 [(.var 0), (.var 1)]), (.var 3), (.app 10 [(.var 3), (.var 4)]), (.var 6)]) (.lit 1)) (.op .sub (.lit 0) (.app 10 [(.var 3), (.var 4)]))))) (.lit 1) (.lit 0)) (.lit 1) (.cmp .gtr (.op .sub (.lit 0) (.op .mul (.app 10 [(.var 0), (.var 1)]) (.var 6))) (.op .mul (.op .sub (.app 131 [(.var 0), (.app 10 [(.var 0), (.var 1)]), (.var 3), (.app 10 [(.var 3), (.var 4)]), (.var 6)]) (.lit 1)) (.op .sub (.lit 0) (.var 3))))) (.lit 1) (.lit 0)) (.lit 1) (.cmp .gtr (.op .sub (.lit 0) (.op .mul (.app 10 [(.var 0), (.var 1)]) (.var 6))) (.op .mul (.op .sub (.app 131 [(.var 0), (.app 10 [(.var 0), (.var 1)]), (.var 3), (.app 10 [(.var 3), (.var 4)]), (.var 6)]) (.lit 1)) (.op .sub (.lit 0) (.app 10 [(.var 3), (.var 4)]))))))) (.leaf (.bool (.lit true))) (.leaf (.bool (.lit false)))))))) (.leaf (.bool (.lit false))))) (.ite (.cmp .eql (.app 132 [(.var 0), (.app 10 [(.var 0), (.var 1)]), (.var 3), (.app 10 [(.var 3), (.var 4)]), (.var 6)]) (.lit 0)) (.ite (.tst (.ite (.cmp .lss (.op .mul (.var 0) (.var 6)) (.op .mul (.app 130 [(.var 0), (.app 10 [(.var 0), (.var 1)]), (.var 3), (.app 10 [(.var 3), (.var 4)]), (.var 6)]) (.var 3))) (.lit 1) (.cmp .gtr (.op .mul (.var 0) (.var 6)) (.op .mul (.app 131 [(.var 0), (.app 10 [(.var 0), (.var 1)]), (.var 3), (.app 10 [(.var 3), (.var 4)]), (.var 6)]) (.var 3))))) (.leaf (.bool (.lit false))) (.ite (.tst (.ite (.cmp .lss (.op .mul (.var 0) (.var 6)) (.op .mul (.app 130 [(.var 0), (.app 10 [(.var 0), (.var 1)]), (.var 3), (.app 10 [(.var 3), (.var 4)]), (.var 6)]) (.app 10 [(.var 3), (.var 4)]))) (.lit 1) (.cmp .gtr (.op .mul (.var 0) (.var 6)) (.op .mul (.app 131 [(.var 0), (.app 10 [(.var 0), (.var 1)]), (.var 3), (.app 10 [(.var 3), (.var 4)]), (.var 6)]) (.app 10 [(.var 3), (.var 4)]))))) (.leaf (.bool (.lit false))) (.ite (.tst (.ite (.cmp .lss (.op .mul (.app 10 [(.var 0), (.var 1)]) (.var 6)) (.op .mul (.app 130 [(.var 0), (.app 10 [(.var 0), (.var 1)]), (.var 3), (.app 10 [(.var 3), (.var 4)]), (.var 6)]) (.var 3))) (.lit 1) (.cmp .gtr (.op .mul (.app 10 [(.var 0), (.var 1)]) (.var 6)) (.op .mul (.app 131 [(.var 0), (.app 10 [(.var 0), (.var 1)]), (.var 3), (.app 10 [(.var 3), (.var 4)]), (.var 6)]) (.var 3))))) (.leaf (.bool (.lit false))) (.ite (.tst (.ite (.cmp .lss (.op .mul (.app 10 [(.var 0), (.var 1)]) (.var 6)) (.op .mul (.app 130 [(.var 0), (.app 10 [(.var 0), (.var 1)]), (.var 3), (.app 10 [(.var 3), (.var 4)]), (.var 6)]) (.app 10 [(.var 3), (.var 4)]))) (.lit 1) (.cmp .gtr (.op .mul (.app 10 [(.var 0), (.var 1)]) (.var 6)) (.op .mul (.app 131 [(.var 0), (.app 10 [(.var 0), (.var 1)]), (.var 3), (.app 10 [(.var 3), (.var 4)]), (.var 6)]) (.app 10 [(.var 3), (.var 4)]))))) (.leaf (.bool (.lit false))) (.ite (.and (.tst (.ite (.ite (.ite (.ite (.ite (.cmp .lss (.op .mul (.var 0) (.var 6)) (.op .mul (.op .add (.app 130 [(.var 0), (.app 10 [(.var 0), (.var 1)]), (.var 3), (.app 10 [(.var 3), (.var 4)]), (.var 6)]) (.lit 1)) (.var 3))) (.lit 1) (.cmp .lss (.op .mul (.var 0) (.var 6)) (.op .mul (.op .add (.app 130 [(.var 0), (.app 10 [(.var 0), (.var 1)]), (.var 3), (.app 10 [(.var 3), (.var 4)]), (.var 6)]) (.lit 1)) (.app 10 [(.var 3), (.var 4)])))) (.lit 1) (.lit 0)) (.lit 1) (.cmp .lss (.op .mul (.app 10 [(.var 0), (.var 1)]) (.var 6)) (.op .mul (.op .add (.app 130 [(.var 0), (.app 10 [(.var 0), (.var 1)]), (.var 3), (.app 10 [(.var 3), (.var 4)]), (.var 6)]) (.lit 1)) (.var 3)))) (.lit 1) (.lit 0)) (.lit 1) (.cmp .lss (.op .mul (.app 10 [(.var 0), (.var 1)]) (.var 6)) (.op .mul (.op .add (.app 130 [(.var 0), (.app 10 [(.var 0), (.var 1)]), (.var 3), (.app 10 [(.var 3), (.var 4)]), (.var 6)]) (.lit 1)) (.app 10 [(.var 3), (.var 4)]))))) (.tst (.ite (.ite (.ite (.ite (.ite (.cmp .gtr (.op .mul (.var 0) (.var 6)) (.op .mul (.op .sub (.app 131 [(.var 0), (.app 10 [(.var 0), (.var 1)]), (.var 3), (.app 10 [(.var 3), (.var 4)]), (.var 6)]) (.lit 1)) (.var 3))) (.lit 1) (.cmp .gtr (.op .mul (.var 0) (.var 6)) (.op .mul (.op .sub (.app 131 [(.var 0), (.app 10 [(.var 0), (.var 1)]), (.var 3), (.app 10 [(.var 3), (.var 4)]), (.var 6)]) (.lit 1)) (.app 10 [(.var 3), (.var 4)])))) (.lit 1) (.lit 0)) (.lit 1) (.cmp .gtr (.op .mul (.app 10 [(.var 0), (.var 1)]) (.var 6)) (.op .mul (.op .sub (.app 131 [(.var 0), (.app 10 [(.var 0), (.var 1)]), (.var 3), (.app 10 [(.var 3), (.var 4)]), (.var 6)]) (.lit 1)) (.var 3)))) (.lit 1) (.lit 0)) (.lit 1) (.cmp .gtr (.op .mul (.app 10 [(.var 0), (.var 1)]) (.var 6)) (.op .mul (.op .sub (.app 131 [(.var 0), (.app 10 [(.var 0), (.var 1)]), (.var 3), (.app 10 [(.var 3), (.var 4)]), (.var 6)]) (.lit 1)) (.app 10 [(.var 3), (.var 4)])))))) (.leaf (.bool (.lit true))) (.leaf (.bool (.lit false)))))))) (.leaf (.bool (.lit false)))))))))))))))))
theorem tree_vt : tree.vt = vt := by kernel_rfl
theorem factsOK (xs0 : List Int) (xs1 : List Int) (xs2 : List Int) (xs3 : List Int) (w0 : Go.SX.wfL ks0 xs0) (w1 : Go.SX.wfL ks1 xs1) (w2 : Go.SX.wfL ks2 xs2) (w3 : Go.SX.wfL ks3 xs3) : ∀ be v, (be, v) ∈ facts → be.den (Go.SX.envOf (List.flatten ([xs0, xs1, xs2, xs3] : List (List Int))) fn) = v := by simp [facts]
set_option maxHeartbeats 4000000 in
theorem main (xs0 : List Int) (xs1 : List Int) (xs2 : List Int) (xs3 : List Int) (w0 : Go.SX.wfL ks0 xs0) (w1 : Go.SX.wfL ks1 xs1) (w2 : Go.SX.wfL ks2 xs2) (w3 : Go.SX.wfL ks3 xs3) : vt.holds (Go.SX.envOf (List.flatten ([xs0, xs1, xs2, xs3] : List (List Int))) fn) fun v => Go.SX.yes (Go.SX.envOf (List.flatten ([xs0, xs1, xs2, xs3] : List (List Int))) fn) v := by
  obtain ⟨a0, b0, c0, rfl, ha0, hb0, hc0⟩ := wf3s w0
  obtain ⟨a1, b1, c1, rfl, ha1, hb1, hc1⟩ := wf3s w1
  obtain ⟨n, _, rfl, gn, e⟩ := w2
  rw [show _ = ([] : List Int) from e]
  obtain ⟨k0, _, rfl, gk, e⟩ := w3
  rw [show _ = ([] : List Int) from e]
  have hn : -32768 ≤ n ∧ n ≤ 32767 := Go.SX.wf_rng (gn _ rfl)
  have hk : 0 ≤ k0 ∧ k0 ≤ 65535 := Go.SX.wf_rng (gk _ rfl)
  clear gn gk
  have e0 := hiS_bd ha0 hb0
  have e1 := hiS_bd ha1 hb1
  simp only [fn, vt, VT.holds, yes, den_blit, den_lit, den_var, den_ite, den_cmp, den_cmpB, den_tst, den_tstF, den_negT, den_negF, den_andT, den_andF, lssT, leqT, gtrT, geqT, eqlT, neqT, lssF, leqF, gtrF, geqF, eqlF, neqF, den_app, den_nilL, den_consL, den_add, den_sub, den_mul, den_tdiv, den_tmod, den_mx, den_mn, env_v, env_f, List.flatten_cons, List.flatten_nil, List.append_nil, List.cons_append, List.nil_append, List.getD_cons_zero, List.getD_cons_succ, List.getD_nil, q_hi, q_add0, q_add1, q_add2, q_sub0, q_sub1, q_sub2, q_hull0, q_hull1, q_hull2, q_meet0, q_meet1, q_meet2, q_mul0, q_mul1, q_mul2, q_div0, q_div1, q_div2, q_scale0, q_scale1, q_scale2, q_square0, q_square1, q_square2, q_clip0, q_clip1, q_clip2, q_grow0, q_grow1, q_grow2]
  generalize hiS a0 b0 = h0 at *
  generalize hiS a1 b1 = h1 at *
  rw [scaleP_small (a := a0) (b := h0) (n := n) (k := k0 + 1) (by omega) (by omega) (by omega) (by omega) (by omega) (by omega) (by omega),
    mulP_small (a := a0) (b := h0) (c := a1) (d := h1) (k := k0 + 1) (by omega) (by omega) (by omega) (by omega) (by omega) (by omega) (by omega) (by omega),
    squareP_small (a := a0) (b := h0) (k := k0 + 1) (by omega) (by omega) (by omega) (by omega) (by omega),
    divP_small (a := a0) (b := h0) (c := a1) (d := h1) (n := n) (by omega) (by omega) (by omega) (by omega) (by omega) (by omega) (by omega) (by omega)]
  simp only [t1, t3, t4]
  obtain ⟨m1, m2, m3, m4, m5, m6⟩ := near4 (p1 := a0 * a1) (p2 := a0 * h1) (p3 := h0 * a1) (p4 := h0 * h1) (k1 := k0 + 1) (k2 := k0 + 1) (k3 := k0 + 1) (k4 := k0 + 1) (by omega) (by omega) (by omega) (by omega) (L := muL a0 h0 a1 h1 (k0 + 1)) (H := muH a0 h0 a1 h1 (k0 + 1)) rfl rfl
  obtain ⟨s1, _, s3, _, s5, s6⟩ := near4 (p1 := a0 * n) (p2 := a0 * n) (p3 := h0 * n) (p4 := h0 * n) (k1 := k0 + 1) (k2 := k0 + 1) (k3 := k0 + 1) (k4 := k0 + 1) (by omega) (by omega) (by omega) (by omega) (L := scL a0 h0 n (k0 + 1)) (H := scH a0 h0 n (k0 + 1)) (by unfold scL; omega) (by unfold scH; omega)
  obtain ⟨r1, r2, r3, r4, r5⟩ := near_sq (k := k0 + 1) e0.1 (by omega)
  simp only [Int.neg_mul, Int.zero_sub]
  clear w0 w1 ha0 hb0 hc0 ha1 hb1 hc1
  refine ⟨fun h => by exfalso; omega, fun h => ?_⟩
  clear h
  refine ⟨fun h => by exfalso; omega, fun h => ?_⟩
  clear h
  refine ⟨fun h => by exfalso; omega, fun h => ?_⟩
  clear h
  refine ⟨fun h => by exfalso; omega, fun h => ?_⟩
  clear h
  refine ⟨fun h => by exfalso; omega, fun h => ?_⟩
  clear h
  clear m1 m2 m3 m4 m5 m6
  refine ⟨fun h => by exfalso; omega, fun h => ?_⟩
  clear h
  refine ⟨fun h => by exfalso; omega, fun h => ?_⟩
  clear h
  refine ⟨fun h => by exfalso; omega, fun h => ?_⟩
  clear h
  clear s1 s3 s5 s6
  refine ⟨fun h => by exfalso; omega, fun h => ?_⟩
  clear h
  refine ⟨fun h => by exfalso; omega, fun h => ?_⟩
  clear h
  refine ⟨fun h => by exfalso; omega, fun h => ?_⟩
  clear h
  refine ⟨fun h => by exfalso; omega, fun h => ?_⟩
  clear h
  clear r1 r2 r3 r4 r5
  have A4 : ∀ (d1 d2 : Int), 1 ≤ a1 → _ := fun d1 d2 h => near4 (p1 := a0 * n) (p2 := a0 * n) (p3 := h0 * n) (p4 := h0 * n) (k1 := a1) (k2 := h1) (k3 := a1) (k4 := h1) h (by omega) h (by omega) (L := dvL a0 h0 a1 h1 n) (H := dvH a0 h0 a1 h1 n)
    (by unfold dvL; rw [if_neg (by omega), if_neg (by omega)]; rfl) (by unfold dvH; rw [if_neg (by omega), if_neg (by omega)]; rfl)
  have B4 : h1 < 0 → _ := fun h => near4 (p1 := -h0 * n) (p2 := -h0 * n) (p3 := -a0 * n) (p4 := -a0 * n) (k1 := -h1) (k2 := -a1) (k3 := -h1) (k4 := -a1) (by omega) (by omega) (by omega) (by omega) (L := dvL a0 h0 a1 h1 n) (H := dvH a0 h0 a1 h1 n)
    (by unfold dvL; rw [if_neg (by omega), if_pos h]; rfl) (by unfold dvH; rw [if_neg (by omega), if_pos h]; rfl)
  have E : (a1 ≤ 0 ∧ 0 ≤ h1 → dvE a1 h1 = 9) ∧ (¬ (a1 ≤ 0 ∧ 0 ≤ h1) → dvE a1 h1 = 0) := by unfold dvE; exact ⟨fun h => if_pos h, fun h => if_neg h⟩
  simp only [Int.neg_mul] at B4
  have A5 := A4 0 0
  have B5 := B4
  clear A4 B4
  generalize dvE a1 h1 = u at *
  refine ⟨fun hc => ?_, fun hc => ?_⟩
  · refine ⟨fun hd => ?_, fun hd => ?_⟩
    · exact ⟨fun _ => trivial, fun h => by exfalso; omega⟩
    · refine ⟨fun hu => ?_, fun h => by exfalso; omega⟩
      obtain ⟨q1, q2, q3, q4, q5, q6⟩ := B5 (by omega)
      clear A5 B5 E
      refine ⟨fun h => by exfalso; omega, fun h => ?_⟩
      clear h
      refine ⟨fun h => by exfalso; omega, fun h => ?_⟩
      clear h
      refine ⟨fun h => by exfalso; omega, fun h => ?_⟩
      clear h
      refine ⟨fun h => by exfalso; omega, fun h => ?_⟩
      clear h
      exact ⟨fun _ => trivial, fun h => by exfalso; omega⟩
  · refine ⟨fun hu => ?_, fun h => by exfalso; omega⟩
    obtain ⟨q1, q2, q3, q4, q5, q6⟩ := A5 (by omega)
    clear A5 B5 E
    refine ⟨fun h => by exfalso; omega, fun h => ?_⟩
    clear h
    refine ⟨fun h => by exfalso; omega, fun h => ?_⟩
    clear h
    refine ⟨fun h => by exfalso; omega, fun h => ?_⟩
    clear h
    refine ⟨fun h => by exfalso; omega, fun h => ?_⟩
    clear h
    exact ⟨fun _ => trivial, fun h => by exfalso; omega⟩
theorem walk (xs0 : List Int) (xs1 : List Int) (xs2 : List Int) (xs3 : List Int) (w0 : Go.SX.wfL ks0 xs0) (w1 : Go.SX.wfL ks1 xs1) (w2 : Go.SX.wfL ks2 xs2) (w3 : Go.SX.wfL ks3 xs3) (w : World) :
    Calls Try.prog 8 #[.agg (Go.SX.valsL ks0 xs0).toArray, .agg (Go.SX.valsL ks1 xs1).toArray, (Go.SX.valsL ks2 xs2).getD 0 undef, (Go.SX.valsL ks3 xs3).getD 0 undef] w fun e w' => e = .returned (.bool true) ∧ Below w.heap.size w w' :=
  Go.SX.calls_facts (P := Try.prog) (X := X) (l := sig) (r := [xs0, xs1, xs2, xs3]) (fn := fn) (n := 100000) (f := 8) (w := w) (facts := facts) (d := 0) mix XOK (⟨xs0, _, rfl, w0, (fun h => by cases h), ⟨xs1, _, rfl, w1, (fun h => by cases h), ⟨xs2, _, rfl, w2, (fun _ => rfl), ⟨xs3, _, rfl, w3, (fun _ => rfl), rfl⟩⟩⟩⟩) (factsOK xs0 xs1 xs2 xs3 w0 w1 w2 w3) tree_eq
    (Go.SX.PT.holds_vt (by rw [tree_vt]; exact main xs0 xs1 xs2 xs3 w0 w1 w2 w3))

set_option maxRecDepth 100000 in
theorem lifted (os : Os) (started : os.Started) (H : Type) (enc : TypeId × Value → H) :
    ReturnsInHanded {} Try.checked os 8 .any (Rows.quantityTightSpec.pre6 enc Try.prog Try.f8 Rows.quantityTightRow.domain false) (Rows.quantityTightSpec.post enc Try.prog Try.f8 false true false false) := by
  refine returnsInHanded_of_change (C := Try.checked) own started (by kernel_rfl) Try.func8
    (ChangeSpec.witness6 (enc := enc) (C := Try.checked) false ⟨#[], #[.agg #[.int .i16 0, .int .i16 0, .int .u16 0], .agg #[.int .i16 0, .int .i16 0, .int .u16 0], .int .i16 0, .int .u16 0], []⟩ 8 (by kernel_rfl) (by kernel_rfl) (by kernel_rfl) (by kernel_rfl)) ?_
  intro W base args ds gs before hval0 hW hcnd _
  have hval : ∀ (j : Nat) t v, Try.f8.params[j]? = some t → args[j]? = some v → Value.okWide Try.prog W .any base t v := hval0
  have hW' := hW
  obtain ⟨p, q, hA0, hV, rfl, hfz, hnd⟩ := hW
  have hA : DataW.TrodAll enc Try.prog W 0 (fun _ => true) true Try.f8.params.toList args.toList ds p := hA0
  rw [Try.params8] at hA hval
  obtain ⟨v0, vs0, d0, ds0, p0, q0, hargs, rfl, rfl, h0, r0⟩ := trodAll_cons hA
  obtain ⟨v1, vs1, d1, ds1, p1, q1, rfl, rfl, rfl, h1, r1⟩ := trodAll_cons r0
  obtain ⟨v2, vs2, d2, ds2, p2, q2, rfl, rfl, rfl, h2, r2⟩ := trodAll_cons r1
  obtain ⟨v3, vs3, d3, ds3, p3, q3, rfl, rfl, rfl, h3, r3⟩ := trodAll_cons r2
  obtain ⟨rfl, rfl, rfl⟩ := trodAll_nil r3
  obtain rfl : args = #[v0, v1, v2, v3] := by cases args; simp_all
  obtain ⟨rfl, rfl⟩ := trodVars_none hV
  have k0 := h0
  have lt0 : ∀ x ∈ p0, x.block < W.heap.size := by obtain ⟨m, hm⟩ := k0; exact DataW.trod_lt m _ _ _ hm
  obtain ⟨xs0, rfl, w0⟩ := Go.SX.open_flat Try.underlying64 40 (ks := ks0) (by kernel_rfl) (by kernel_rfl) (hval 0 64 v0 rfl rfl) h0
  have k1 := h1
  have lt1 : ∀ x ∈ p1, x.block < W.heap.size := by obtain ⟨m, hm⟩ := k1; exact DataW.trod_lt m _ _ _ hm
  obtain ⟨xs1, rfl, w1⟩ := Go.SX.open_flat Try.underlying64 40 (ks := ks1) (by kernel_rfl) (by kernel_rfl) (hval 1 64 v1 rfl rfl) h1
  have k2 := h2
  have lt2 : ∀ x ∈ p2, x.block < W.heap.size := by obtain ⟨m, hm⟩ := k2; exact DataW.trod_lt m _ _ _ hm
  obtain ⟨xs2, rfl, w2⟩ := Go.SX.open_flat1 (k := some .i16) Try.underlying61 (hval 2 61 v2 rfl rfl) h2
  have k3 := h3
  have lt3 : ∀ x ∈ p3, x.block < W.heap.size := by obtain ⟨m, hm⟩ := k3; exact DataW.trod_lt m _ _ _ hm
  obtain ⟨xs3, rfl, w3⟩ := Go.SX.open_flat1 (k := some .u16) Try.underlying62 (hval 3 62 v3 rfl rfl) h3
  clear hA0 hval0
  refine (walk xs0 xs1 xs2 xs3 w0 w1 w2 w3 W).mono fun e W' ⟨he, bel⟩ => ?_
  subst he
  exact ⟨_, rfl, _, _, _, [], _, [], hW', trodAll_mk1 (shut_bool Try.underlying4 _), (trodAll_cons_mk (Below.trod laidOut (by kernel_rfl) (of_decide_eq_true (by kernel_rfl)) k0 bel lt0) (trodAll_cons_mk (Below.trod laidOut (by kernel_rfl) (of_decide_eq_true (by kernel_rfl)) k1 bel lt1) (trodAll_cons_mk (Below.trod laidOut (by kernel_rfl) (of_decide_eq_true (by kernel_rfl)) k2 bel lt2) (trodAll_cons_mk (Below.trod laidOut (by kernel_rfl) (of_decide_eq_true (by kernel_rfl)) k3 bel lt3) trodAll_mk0)))), rfl, bel.frame _, fun h => by cases h⟩

theorem over : Rows.quantityTightRow.holds Try.pinned (OpenSpec.ofChange Rows.quantityTightSpec) :=
  OpenClaim.holds_of_wide 8 Try.f8 rfl rfl rfl rfl rfl rfl rfl ⟨rfl, rfl, rfl, rfl, rfl⟩ rfl rfl rfl rfl rfl (by kernel_rfl) Try.func8 (by kernel_rfl)
    (of_decide_eq_true (by kernel_rfl)) (by unfold Func.isWrapper; first | (rw [if_pos (by decide +kernel)]; kernel_rfl) | (rw [if_neg (by decide +kernel)]; exact ⟨rfl, rfl⟩))
    (fun os started H enc _ => lifted os started H enc)

/-- THE STATEMENT -/
theorem proved : Rows.QuantityTightSaid := over
#print axioms proved
end Go.Proofs.Ytlaalhbicblbeaa.quantityTight
