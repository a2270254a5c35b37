/- Some of the ways of the law ProtectVoting. -/
import Derived.Test.YtbphajopcmiadaaLV0
namespace Go.Proofs.Ytbphajopcmiadaa.protectVoting
open Go.SX
open Go.ChangeShapes Go.WideShapes Go.ChangeAt Go.RowKit
set_option linter.unusedVariables false
set_option linter.unusedSimpArgs false
def facts0 : List (Go.SX.BE × Bool) := factsOf 0 0 false
def vt0 : Go.SX.VT := vtl0
set_option maxRecDepth 100000 in
theorem tree_vt0 : (Go.SX.run (Go.SX.callT Try.prog X 100000 6 (Go.SX.shArgs sh 0 0) (Go.SX.shCtx sh facts0 1)) (Go.SX.shSt sh)).vt = vt0 := by kernel_rfl
open Go.SX in
theorem main0 (pv : List Go.SX.PV) (w : World) (hw : Go.SX.pvAll w sh pv) (hf : ∀ be v, (be, v) ∈ facts0 → be.den (Go.SX.envOf (Go.SX.pvNums pv) (Go.SX.withRows fn0 sh pv)) = v) : vt0.holds (Go.SX.envOf (Go.SX.pvNums pv) (Go.SX.withRows fn0 sh pv)) fun v => Go.SX.yes (Go.SX.envOf (Go.SX.pvNums pv) (Go.SX.withRows fn0 sh pv)) v := by
  obtain ⟨p0, _, rfl, g0, p1, _, rfl, g1, p2, _, rfl, g2, p3, _, rfl, g3, p4, _, rfl, g4, p5, _, rfl, g5, p6, _, rfl, g6, p7, _, rfl, g7, e⟩ := hw
  rw [show _ = ([] : List PV) from e]
  obtain ⟨x0, rfl, r0⟩ := flatI g0
  obtain ⟨x1, rfl, r1⟩ := flatI g1
  obtain ⟨x2, rfl, r2⟩ := flatI g2
  obtain ⟨x3, rfl, r3⟩ := flatI g3
  obtain ⟨x4, rfl, r4⟩ := flatI g4
  obtain ⟨x5, rfl, r5⟩ := flatI g5
  obtain ⟨x6, rfl⟩ := flatB g6
  obtain ⟨x7, rfl, r7⟩ := flatI g7
  exact core0 r1 r2
def facts1 : List (Go.SX.BE × Bool) := factsOf 0 0 true
def vt1 : Go.SX.VT := vtl1
set_option maxRecDepth 100000 in
theorem tree_vt1 : (Go.SX.run (Go.SX.callT Try.prog X 100000 6 (Go.SX.shArgs sh 0 0) (Go.SX.shCtx sh facts1 1)) (Go.SX.shSt sh)).vt = vt1 := by kernel_rfl
open Go.SX in
theorem main1 (pv : List Go.SX.PV) (w : World) (hw : Go.SX.pvAll w sh pv) (hf : ∀ be v, (be, v) ∈ facts1 → be.den (Go.SX.envOf (Go.SX.pvNums pv) (Go.SX.withRows fn0 sh pv)) = v) : vt1.holds (Go.SX.envOf (Go.SX.pvNums pv) (Go.SX.withRows fn0 sh pv)) fun v => Go.SX.yes (Go.SX.envOf (Go.SX.pvNums pv) (Go.SX.withRows fn0 sh pv)) v := by
  obtain ⟨p0, _, rfl, g0, p1, _, rfl, g1, p2, _, rfl, g2, p3, _, rfl, g3, p4, _, rfl, g4, p5, _, rfl, g5, p6, _, rfl, g6, p7, _, rfl, g7, e⟩ := hw
  rw [show _ = ([] : List PV) from e]
  obtain ⟨x0, rfl, r0⟩ := flatI g0
  obtain ⟨x1, rfl, r1⟩ := flatI g1
  obtain ⟨x2, rfl, r2⟩ := flatI g2
  obtain ⟨x3, rfl, r3⟩ := flatI g3
  obtain ⟨x4, rfl, r4⟩ := flatI g4
  obtain ⟨x5, rfl, r5⟩ := flatI g5
  obtain ⟨x6, rfl⟩ := flatB g6
  obtain ⟨x7, rfl, r7⟩ := flatI g7
  exact core1 r1 r2
def facts2 : List (Go.SX.BE × Bool) := factsOf 0 1 false
def vt2 : Go.SX.VT := vtl2
set_option maxRecDepth 100000 in
theorem tree_vt2 : (Go.SX.run (Go.SX.callT Try.prog X 100000 6 (Go.SX.shArgs sh 0 0) (Go.SX.shCtx sh facts2 1)) (Go.SX.shSt sh)).vt = vt2 := by kernel_rfl
open Go.SX in
theorem main2 (pv : List Go.SX.PV) (w : World) (hw : Go.SX.pvAll w sh pv) (hf : ∀ be v, (be, v) ∈ facts2 → be.den (Go.SX.envOf (Go.SX.pvNums pv) (Go.SX.withRows fn0 sh pv)) = v) : vt2.holds (Go.SX.envOf (Go.SX.pvNums pv) (Go.SX.withRows fn0 sh pv)) fun v => Go.SX.yes (Go.SX.envOf (Go.SX.pvNums pv) (Go.SX.withRows fn0 sh pv)) v := by
  obtain ⟨p0, _, rfl, g0, p1, _, rfl, g1, p2, _, rfl, g2, p3, _, rfl, g3, p4, _, rfl, g4, p5, _, rfl, g5, p6, _, rfl, g6, p7, _, rfl, g7, e⟩ := hw
  rw [show _ = ([] : List PV) from e]
  obtain ⟨x0, rfl, r0⟩ := flatI g0
  obtain ⟨x1, rfl, r1⟩ := flatI g1
  obtain ⟨x2, rfl, r2⟩ := flatI g2
  obtain ⟨x3, rfl, r3⟩ := flatI g3
  obtain ⟨x4, rfl, r4⟩ := flatI g4
  obtain ⟨x5, rfl, r5⟩ := flatI g5
  obtain ⟨x6, rfl⟩ := flatB g6
  obtain ⟨x7, rfl, r7⟩ := flatI g7
  exact core2 r1 r2
def facts3 : List (Go.SX.BE × Bool) := factsOf 0 1 true
def vt3 : Go.SX.VT := vtl1
set_option maxRecDepth 100000 in
theorem tree_vt3 : (Go.SX.run (Go.SX.callT Try.prog X 100000 6 (Go.SX.shArgs sh 0 0) (Go.SX.shCtx sh facts3 1)) (Go.SX.shSt sh)).vt = vt3 := by kernel_rfl
open Go.SX in
theorem main3 (pv : List Go.SX.PV) (w : World) (hw : Go.SX.pvAll w sh pv) (hf : ∀ be v, (be, v) ∈ facts3 → be.den (Go.SX.envOf (Go.SX.pvNums pv) (Go.SX.withRows fn0 sh pv)) = v) : vt3.holds (Go.SX.envOf (Go.SX.pvNums pv) (Go.SX.withRows fn0 sh pv)) fun v => Go.SX.yes (Go.SX.envOf (Go.SX.pvNums pv) (Go.SX.withRows fn0 sh pv)) v := by
  obtain ⟨p0, _, rfl, g0, p1, _, rfl, g1, p2, _, rfl, g2, p3, _, rfl, g3, p4, _, rfl, g4, p5, _, rfl, g5, p6, _, rfl, g6, p7, _, rfl, g7, e⟩ := hw
  rw [show _ = ([] : List PV) from e]
  obtain ⟨x0, rfl, r0⟩ := flatI g0
  obtain ⟨x1, rfl, r1⟩ := flatI g1
  obtain ⟨x2, rfl, r2⟩ := flatI g2
  obtain ⟨x3, rfl, r3⟩ := flatI g3
  obtain ⟨x4, rfl, r4⟩ := flatI g4
  obtain ⟨x5, rfl, r5⟩ := flatI g5
  obtain ⟨x6, rfl⟩ := flatB g6
  obtain ⟨x7, rfl, r7⟩ := flatI g7
  exact core1 r1 r2
def facts4 : List (Go.SX.BE × Bool) := factsOf 0 2 false
def vt4 : Go.SX.VT := vtl3
set_option maxRecDepth 100000 in
theorem tree_vt4 : (Go.SX.run (Go.SX.callT Try.prog X 100000 6 (Go.SX.shArgs sh 0 0) (Go.SX.shCtx sh facts4 1)) (Go.SX.shSt sh)).vt = vt4 := by kernel_rfl
open Go.SX in
theorem main4 (pv : List Go.SX.PV) (w : World) (hw : Go.SX.pvAll w sh pv) (hf : ∀ be v, (be, v) ∈ facts4 → be.den (Go.SX.envOf (Go.SX.pvNums pv) (Go.SX.withRows fn0 sh pv)) = v) : vt4.holds (Go.SX.envOf (Go.SX.pvNums pv) (Go.SX.withRows fn0 sh pv)) fun v => Go.SX.yes (Go.SX.envOf (Go.SX.pvNums pv) (Go.SX.withRows fn0 sh pv)) v := by
  obtain ⟨p0, _, rfl, g0, p1, _, rfl, g1, p2, _, rfl, g2, p3, _, rfl, g3, p4, _, rfl, g4, p5, _, rfl, g5, p6, _, rfl, g6, p7, _, rfl, g7, e⟩ := hw
  rw [show _ = ([] : List PV) from e]
  obtain ⟨x0, rfl, r0⟩ := flatI g0
  obtain ⟨x1, rfl, r1⟩ := flatI g1
  obtain ⟨x2, rfl, r2⟩ := flatI g2
  obtain ⟨x3, rfl, r3⟩ := flatI g3
  obtain ⟨x4, rfl, r4⟩ := flatI g4
  obtain ⟨x5, rfl, r5⟩ := flatI g5
  obtain ⟨x6, rfl⟩ := flatB g6
  obtain ⟨x7, rfl, r7⟩ := flatI g7
  exact core3 r1 r2
def facts5 : List (Go.SX.BE × Bool) := factsOf 0 2 true
def vt5 : Go.SX.VT := vtl1
set_option maxRecDepth 100000 in
theorem tree_vt5 : (Go.SX.run (Go.SX.callT Try.prog X 100000 6 (Go.SX.shArgs sh 0 0) (Go.SX.shCtx sh facts5 1)) (Go.SX.shSt sh)).vt = vt5 := by kernel_rfl
open Go.SX in
theorem main5 (pv : List Go.SX.PV) (w : World) (hw : Go.SX.pvAll w sh pv) (hf : ∀ be v, (be, v) ∈ facts5 → be.den (Go.SX.envOf (Go.SX.pvNums pv) (Go.SX.withRows fn0 sh pv)) = v) : vt5.holds (Go.SX.envOf (Go.SX.pvNums pv) (Go.SX.withRows fn0 sh pv)) fun v => Go.SX.yes (Go.SX.envOf (Go.SX.pvNums pv) (Go.SX.withRows fn0 sh pv)) v := by
  obtain ⟨p0, _, rfl, g0, p1, _, rfl, g1, p2, _, rfl, g2, p3, _, rfl, g3, p4, _, rfl, g4, p5, _, rfl, g5, p6, _, rfl, g6, p7, _, rfl, g7, e⟩ := hw
  rw [show _ = ([] : List PV) from e]
  obtain ⟨x0, rfl, r0⟩ := flatI g0
  obtain ⟨x1, rfl, r1⟩ := flatI g1
  obtain ⟨x2, rfl, r2⟩ := flatI g2
  obtain ⟨x3, rfl, r3⟩ := flatI g3
  obtain ⟨x4, rfl, r4⟩ := flatI g4
  obtain ⟨x5, rfl, r5⟩ := flatI g5
  obtain ⟨x6, rfl⟩ := flatB g6
  obtain ⟨x7, rfl, r7⟩ := flatI g7
  exact core1 r1 r2
end Go.Proofs.Ytbphajopcmiadaa.protectVoting
