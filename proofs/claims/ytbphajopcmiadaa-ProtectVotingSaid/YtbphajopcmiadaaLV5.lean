/- Some of the ways of the law ProtectVoting. -/
import Derived.Test.YtbphajopcmiadaaLV0
namespace Go.Proofs.Ytbphajopcmiadaa.protectVoting
open Go.SX
open Go.ChangeShapes Go.WideShapes Go.ChangeAt Go.RowKit
set_option linter.unusedVariables false
set_option linter.unusedSimpArgs false
def facts24 : List (Go.SX.BE × Bool) := factsOf 4 0 false
def vt24 : Go.SX.VT := vtl0
set_option maxRecDepth 100000 in
theorem tree_vt24 : (Go.SX.run (Go.SX.callT Try.prog X 100000 6 (Go.SX.shArgs sh 0 0) (Go.SX.shCtx sh facts24 1)) (Go.SX.shSt sh)).vt = vt24 := by kernel_rfl
open Go.SX in
theorem main24 (pv : List Go.SX.PV) (w : World) (hw : Go.SX.pvAll w sh pv) (hf : ∀ be v, (be, v) ∈ facts24 → be.den (Go.SX.envOf (Go.SX.pvNums pv) (Go.SX.withRows fn0 sh pv)) = v) : vt24.holds (Go.SX.envOf (Go.SX.pvNums pv) (Go.SX.withRows fn0 sh pv)) fun v => Go.SX.yes (Go.SX.envOf (Go.SX.pvNums pv) (Go.SX.withRows fn0 sh pv)) v := by
  obtain ⟨p0, _, rfl, g0, p1, _, rfl, g1, p2, _, rfl, g2, p3, _, rfl, g3, p4, _, rfl, g4, p5, _, rfl, g5, p6, _, rfl, g6, p7, _, rfl, g7, e⟩ := hw
  rw [show _ = ([] : List PV) from e]
  obtain ⟨x0, rfl, r0⟩ := flatI g0
  obtain ⟨x1, rfl, r1⟩ := flatI g1
  obtain ⟨x2, rfl, r2⟩ := flatI g2
  obtain ⟨x3, rfl, r3⟩ := flatI g3
  obtain ⟨x4, rfl, r4⟩ := flatI g4
  obtain ⟨x5, rfl, r5⟩ := flatI g5
  obtain ⟨x6, rfl⟩ := flatB g6
  obtain ⟨x7, rfl, r7⟩ := flatI g7
  exact core0 r1 r2
def facts25 : List (Go.SX.BE × Bool) := factsOf 4 0 true
def vt25 : Go.SX.VT := vtl1
set_option maxRecDepth 100000 in
theorem tree_vt25 : (Go.SX.run (Go.SX.callT Try.prog X 100000 6 (Go.SX.shArgs sh 0 0) (Go.SX.shCtx sh facts25 1)) (Go.SX.shSt sh)).vt = vt25 := by kernel_rfl
open Go.SX in
theorem main25 (pv : List Go.SX.PV) (w : World) (hw : Go.SX.pvAll w sh pv) (hf : ∀ be v, (be, v) ∈ facts25 → be.den (Go.SX.envOf (Go.SX.pvNums pv) (Go.SX.withRows fn0 sh pv)) = v) : vt25.holds (Go.SX.envOf (Go.SX.pvNums pv) (Go.SX.withRows fn0 sh pv)) fun v => Go.SX.yes (Go.SX.envOf (Go.SX.pvNums pv) (Go.SX.withRows fn0 sh pv)) v := by
  obtain ⟨p0, _, rfl, g0, p1, _, rfl, g1, p2, _, rfl, g2, p3, _, rfl, g3, p4, _, rfl, g4, p5, _, rfl, g5, p6, _, rfl, g6, p7, _, rfl, g7, e⟩ := hw
  rw [show _ = ([] : List PV) from e]
  obtain ⟨x0, rfl, r0⟩ := flatI g0
  obtain ⟨x1, rfl, r1⟩ := flatI g1
  obtain ⟨x2, rfl, r2⟩ := flatI g2
  obtain ⟨x3, rfl, r3⟩ := flatI g3
  obtain ⟨x4, rfl, r4⟩ := flatI g4
  obtain ⟨x5, rfl, r5⟩ := flatI g5
  obtain ⟨x6, rfl⟩ := flatB g6
  obtain ⟨x7, rfl, r7⟩ := flatI g7
  exact core1 r1 r2
def facts26 : List (Go.SX.BE × Bool) := factsOf 4 1 false
def vt26 : Go.SX.VT := vtl2
set_option maxRecDepth 100000 in
theorem tree_vt26 : (Go.SX.run (Go.SX.callT Try.prog X 100000 6 (Go.SX.shArgs sh 0 0) (Go.SX.shCtx sh facts26 1)) (Go.SX.shSt sh)).vt = vt26 := by kernel_rfl
open Go.SX in
theorem main26 (pv : List Go.SX.PV) (w : World) (hw : Go.SX.pvAll w sh pv) (hf : ∀ be v, (be, v) ∈ facts26 → be.den (Go.SX.envOf (Go.SX.pvNums pv) (Go.SX.withRows fn0 sh pv)) = v) : vt26.holds (Go.SX.envOf (Go.SX.pvNums pv) (Go.SX.withRows fn0 sh pv)) fun v => Go.SX.yes (Go.SX.envOf (Go.SX.pvNums pv) (Go.SX.withRows fn0 sh pv)) v := by
  obtain ⟨p0, _, rfl, g0, p1, _, rfl, g1, p2, _, rfl, g2, p3, _, rfl, g3, p4, _, rfl, g4, p5, _, rfl, g5, p6, _, rfl, g6, p7, _, rfl, g7, e⟩ := hw
  rw [show _ = ([] : List PV) from e]
  obtain ⟨x0, rfl, r0⟩ := flatI g0
  obtain ⟨x1, rfl, r1⟩ := flatI g1
  obtain ⟨x2, rfl, r2⟩ := flatI g2
  obtain ⟨x3, rfl, r3⟩ := flatI g3
  obtain ⟨x4, rfl, r4⟩ := flatI g4
  obtain ⟨x5, rfl, r5⟩ := flatI g5
  obtain ⟨x6, rfl⟩ := flatB g6
  obtain ⟨x7, rfl, r7⟩ := flatI g7
  exact core2 r1 r2
def facts27 : List (Go.SX.BE × Bool) := factsOf 4 1 true
def vt27 : Go.SX.VT := vtl1
set_option maxRecDepth 100000 in
theorem tree_vt27 : (Go.SX.run (Go.SX.callT Try.prog X 100000 6 (Go.SX.shArgs sh 0 0) (Go.SX.shCtx sh facts27 1)) (Go.SX.shSt sh)).vt = vt27 := by kernel_rfl
open Go.SX in
theorem main27 (pv : List Go.SX.PV) (w : World) (hw : Go.SX.pvAll w sh pv) (hf : ∀ be v, (be, v) ∈ facts27 → be.den (Go.SX.envOf (Go.SX.pvNums pv) (Go.SX.withRows fn0 sh pv)) = v) : vt27.holds (Go.SX.envOf (Go.SX.pvNums pv) (Go.SX.withRows fn0 sh pv)) fun v => Go.SX.yes (Go.SX.envOf (Go.SX.pvNums pv) (Go.SX.withRows fn0 sh pv)) v := by
  obtain ⟨p0, _, rfl, g0, p1, _, rfl, g1, p2, _, rfl, g2, p3, _, rfl, g3, p4, _, rfl, g4, p5, _, rfl, g5, p6, _, rfl, g6, p7, _, rfl, g7, e⟩ := hw
  rw [show _ = ([] : List PV) from e]
  obtain ⟨x0, rfl, r0⟩ := flatI g0
  obtain ⟨x1, rfl, r1⟩ := flatI g1
  obtain ⟨x2, rfl, r2⟩ := flatI g2
  obtain ⟨x3, rfl, r3⟩ := flatI g3
  obtain ⟨x4, rfl, r4⟩ := flatI g4
  obtain ⟨x5, rfl, r5⟩ := flatI g5
  obtain ⟨x6, rfl⟩ := flatB g6
  obtain ⟨x7, rfl, r7⟩ := flatI g7
  exact core1 r1 r2
def facts28 : List (Go.SX.BE × Bool) := factsOf 4 2 false
def vt28 : Go.SX.VT := vtl3
set_option maxRecDepth 100000 in
theorem tree_vt28 : (Go.SX.run (Go.SX.callT Try.prog X 100000 6 (Go.SX.shArgs sh 0 0) (Go.SX.shCtx sh facts28 1)) (Go.SX.shSt sh)).vt = vt28 := by kernel_rfl
open Go.SX in
theorem main28 (pv : List Go.SX.PV) (w : World) (hw : Go.SX.pvAll w sh pv) (hf : ∀ be v, (be, v) ∈ facts28 → be.den (Go.SX.envOf (Go.SX.pvNums pv) (Go.SX.withRows fn0 sh pv)) = v) : vt28.holds (Go.SX.envOf (Go.SX.pvNums pv) (Go.SX.withRows fn0 sh pv)) fun v => Go.SX.yes (Go.SX.envOf (Go.SX.pvNums pv) (Go.SX.withRows fn0 sh pv)) v := by
  obtain ⟨p0, _, rfl, g0, p1, _, rfl, g1, p2, _, rfl, g2, p3, _, rfl, g3, p4, _, rfl, g4, p5, _, rfl, g5, p6, _, rfl, g6, p7, _, rfl, g7, e⟩ := hw
  rw [show _ = ([] : List PV) from e]
  obtain ⟨x0, rfl, r0⟩ := flatI g0
  obtain ⟨x1, rfl, r1⟩ := flatI g1
  obtain ⟨x2, rfl, r2⟩ := flatI g2
  obtain ⟨x3, rfl, r3⟩ := flatI g3
  obtain ⟨x4, rfl, r4⟩ := flatI g4
  obtain ⟨x5, rfl, r5⟩ := flatI g5
  obtain ⟨x6, rfl⟩ := flatB g6
  obtain ⟨x7, rfl, r7⟩ := flatI g7
  exact core3 r1 r2
def facts29 : List (Go.SX.BE × Bool) := factsOf 4 2 true
def vt29 : Go.SX.VT := vtl1
set_option maxRecDepth 100000 in
theorem tree_vt29 : (Go.SX.run (Go.SX.callT Try.prog X 100000 6 (Go.SX.shArgs sh 0 0) (Go.SX.shCtx sh facts29 1)) (Go.SX.shSt sh)).vt = vt29 := by kernel_rfl
open Go.SX in
theorem main29 (pv : List Go.SX.PV) (w : World) (hw : Go.SX.pvAll w sh pv) (hf : ∀ be v, (be, v) ∈ facts29 → be.den (Go.SX.envOf (Go.SX.pvNums pv) (Go.SX.withRows fn0 sh pv)) = v) : vt29.holds (Go.SX.envOf (Go.SX.pvNums pv) (Go.SX.withRows fn0 sh pv)) fun v => Go.SX.yes (Go.SX.envOf (Go.SX.pvNums pv) (Go.SX.withRows fn0 sh pv)) v := by
  obtain ⟨p0, _, rfl, g0, p1, _, rfl, g1, p2, _, rfl, g2, p3, _, rfl, g3, p4, _, rfl, g4, p5, _, rfl, g5, p6, _, rfl, g6, p7, _, rfl, g7, e⟩ := hw
  rw [show _ = ([] : List PV) from e]
  obtain ⟨x0, rfl, r0⟩ := flatI g0
  obtain ⟨x1, rfl, r1⟩ := flatI g1
  obtain ⟨x2, rfl, r2⟩ := flatI g2
  obtain ⟨x3, rfl, r3⟩ := flatI g3
  obtain ⟨x4, rfl, r4⟩ := flatI g4
  obtain ⟨x5, rfl, r5⟩ := flatI g5
  obtain ⟨x6, rfl⟩ := flatB g6
  obtain ⟨x7, rfl, r7⟩ := flatI g7
  exact core1 r1 r2
end Go.Proofs.Ytbphajopcmiadaa.protectVoting
