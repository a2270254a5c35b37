/- Some of the ways of the law ProtectVoting. -/
import Derived.Test.YtbphajopcmiadaaLV0
namespace Go.Proofs.Ytbphajopcmiadaa.protectVoting
open Go.SX
open Go.ChangeShapes Go.WideShapes Go.ChangeAt Go.RowKit
set_option linter.unusedVariables false
set_option linter.unusedSimpArgs false
def facts6 : List (Go.SX.BE × Bool) := factsOf 1 0 false
def vt6 : Go.SX.VT := vtl0
set_option maxRecDepth 100000 in
theorem tree_vt6 : (Go.SX.run (Go.SX.callT Try.prog X 100000 6 (Go.SX.shArgs sh 0 0) (Go.SX.shCtx sh facts6 1)) (Go.SX.shSt sh)).vt = vt6 := by kernel_rfl
open Go.SX in
theorem main6 (pv : List Go.SX.PV) (w : World) (hw : Go.SX.pvAll w sh pv) (hf : ∀ be v, (be, v) ∈ facts6 → be.den (Go.SX.envOf (Go.SX.pvNums pv) (Go.SX.withRows fn0 sh pv)) = v) : vt6.holds (Go.SX.envOf (Go.SX.pvNums pv) (Go.SX.withRows fn0 sh pv)) fun v => Go.SX.yes (Go.SX.envOf (Go.SX.pvNums pv) (Go.SX.withRows fn0 sh pv)) v := by
  obtain ⟨p0, _, rfl, g0, p1, _, rfl, g1, p2, _, rfl, g2, p3, _, rfl, g3, p4, _, rfl, g4, p5, _, rfl, g5, p6, _, rfl, g6, p7, _, rfl, g7, e⟩ := hw
  rw [show _ = ([] : List PV) from e]
  obtain ⟨x0, rfl, r0⟩ := flatI g0
  obtain ⟨x1, rfl, r1⟩ := flatI g1
  obtain ⟨x2, rfl, r2⟩ := flatI g2
  obtain ⟨x3, rfl, r3⟩ := flatI g3
  obtain ⟨x4, rfl, r4⟩ := flatI g4
  obtain ⟨x5, rfl, r5⟩ := flatI g5
  obtain ⟨x6, rfl⟩ := flatB g6
  obtain ⟨x7, rfl, r7⟩ := flatI g7
  exact core0 r1 r2
def facts7 : List (Go.SX.BE × Bool) := factsOf 1 0 true
def vt7 : Go.SX.VT := vtl1
set_option maxRecDepth 100000 in
theorem tree_vt7 : (Go.SX.run (Go.SX.callT Try.prog X 100000 6 (Go.SX.shArgs sh 0 0) (Go.SX.shCtx sh facts7 1)) (Go.SX.shSt sh)).vt = vt7 := by kernel_rfl
open Go.SX in
theorem main7 (pv : List Go.SX.PV) (w : World) (hw : Go.SX.pvAll w sh pv) (hf : ∀ be v, (be, v) ∈ facts7 → be.den (Go.SX.envOf (Go.SX.pvNums pv) (Go.SX.withRows fn0 sh pv)) = v) : vt7.holds (Go.SX.envOf (Go.SX.pvNums pv) (Go.SX.withRows fn0 sh pv)) fun v => Go.SX.yes (Go.SX.envOf (Go.SX.pvNums pv) (Go.SX.withRows fn0 sh pv)) v := by
  obtain ⟨p0, _, rfl, g0, p1, _, rfl, g1, p2, _, rfl, g2, p3, _, rfl, g3, p4, _, rfl, g4, p5, _, rfl, g5, p6, _, rfl, g6, p7, _, rfl, g7, e⟩ := hw
  rw [show _ = ([] : List PV) from e]
  obtain ⟨x0, rfl, r0⟩ := flatI g0
  obtain ⟨x1, rfl, r1⟩ := flatI g1
  obtain ⟨x2, rfl, r2⟩ := flatI g2
  obtain ⟨x3, rfl, r3⟩ := flatI g3
  obtain ⟨x4, rfl, r4⟩ := flatI g4
  obtain ⟨x5, rfl, r5⟩ := flatI g5
  obtain ⟨x6, rfl⟩ := flatB g6
  obtain ⟨x7, rfl, r7⟩ := flatI g7
  exact core1 r1 r2
def facts8 : List (Go.SX.BE × Bool) := factsOf 1 1 false
def vt8 : Go.SX.VT := vtl2
set_option maxRecDepth 100000 in
theorem tree_vt8 : (Go.SX.run (Go.SX.callT Try.prog X 100000 6 (Go.SX.shArgs sh 0 0) (Go.SX.shCtx sh facts8 1)) (Go.SX.shSt sh)).vt = vt8 := by kernel_rfl
open Go.SX in
theorem main8 (pv : List Go.SX.PV) (w : World) (hw : Go.SX.pvAll w sh pv) (hf : ∀ be v, (be, v) ∈ facts8 → be.den (Go.SX.envOf (Go.SX.pvNums pv) (Go.SX.withRows fn0 sh pv)) = v) : vt8.holds (Go.SX.envOf (Go.SX.pvNums pv) (Go.SX.withRows fn0 sh pv)) fun v => Go.SX.yes (Go.SX.envOf (Go.SX.pvNums pv) (Go.SX.withRows fn0 sh pv)) v := by
  obtain ⟨p0, _, rfl, g0, p1, _, rfl, g1, p2, _, rfl, g2, p3, _, rfl, g3, p4, _, rfl, g4, p5, _, rfl, g5, p6, _, rfl, g6, p7, _, rfl, g7, e⟩ := hw
  rw [show _ = ([] : List PV) from e]
  obtain ⟨x0, rfl, r0⟩ := flatI g0
  obtain ⟨x1, rfl, r1⟩ := flatI g1
  obtain ⟨x2, rfl, r2⟩ := flatI g2
  obtain ⟨x3, rfl, r3⟩ := flatI g3
  obtain ⟨x4, rfl, r4⟩ := flatI g4
  obtain ⟨x5, rfl, r5⟩ := flatI g5
  obtain ⟨x6, rfl⟩ := flatB g6
  obtain ⟨x7, rfl, r7⟩ := flatI g7
  exact core2 r1 r2
def facts9 : List (Go.SX.BE × Bool) := factsOf 1 1 true
def vt9 : Go.SX.VT := vtl1
set_option maxRecDepth 100000 in
theorem tree_vt9 : (Go.SX.run (Go.SX.callT Try.prog X 100000 6 (Go.SX.shArgs sh 0 0) (Go.SX.shCtx sh facts9 1)) (Go.SX.shSt sh)).vt = vt9 := by kernel_rfl
open Go.SX in
theorem main9 (pv : List Go.SX.PV) (w : World) (hw : Go.SX.pvAll w sh pv) (hf : ∀ be v, (be, v) ∈ facts9 → be.den (Go.SX.envOf (Go.SX.pvNums pv) (Go.SX.withRows fn0 sh pv)) = v) : vt9.holds (Go.SX.envOf (Go.SX.pvNums pv) (Go.SX.withRows fn0 sh pv)) fun v => Go.SX.yes (Go.SX.envOf (Go.SX.pvNums pv) (Go.SX.withRows fn0 sh pv)) v := by
  obtain ⟨p0, _, rfl, g0, p1, _, rfl, g1, p2, _, rfl, g2, p3, _, rfl, g3, p4, _, rfl, g4, p5, _, rfl, g5, p6, _, rfl, g6, p7, _, rfl, g7, e⟩ := hw
  rw [show _ = ([] : List PV) from e]
  obtain ⟨x0, rfl, r0⟩ := flatI g0
  obtain ⟨x1, rfl, r1⟩ := flatI g1
  obtain ⟨x2, rfl, r2⟩ := flatI g2
  obtain ⟨x3, rfl, r3⟩ := flatI g3
  obtain ⟨x4, rfl, r4⟩ := flatI g4
  obtain ⟨x5, rfl, r5⟩ := flatI g5
  obtain ⟨x6, rfl⟩ := flatB g6
  obtain ⟨x7, rfl, r7⟩ := flatI g7
  exact core1 r1 r2
def facts10 : List (Go.SX.BE × Bool) := factsOf 1 2 false
def vt10 : Go.SX.VT := vtl3
set_option maxRecDepth 100000 in
theorem tree_vt10 : (Go.SX.run (Go.SX.callT Try.prog X 100000 6 (Go.SX.shArgs sh 0 0) (Go.SX.shCtx sh facts10 1)) (Go.SX.shSt sh)).vt = vt10 := by kernel_rfl
open Go.SX in
theorem main10 (pv : List Go.SX.PV) (w : World) (hw : Go.SX.pvAll w sh pv) (hf : ∀ be v, (be, v) ∈ facts10 → be.den (Go.SX.envOf (Go.SX.pvNums pv) (Go.SX.withRows fn0 sh pv)) = v) : vt10.holds (Go.SX.envOf (Go.SX.pvNums pv) (Go.SX.withRows fn0 sh pv)) fun v => Go.SX.yes (Go.SX.envOf (Go.SX.pvNums pv) (Go.SX.withRows fn0 sh pv)) v := by
  obtain ⟨p0, _, rfl, g0, p1, _, rfl, g1, p2, _, rfl, g2, p3, _, rfl, g3, p4, _, rfl, g4, p5, _, rfl, g5, p6, _, rfl, g6, p7, _, rfl, g7, e⟩ := hw
  rw [show _ = ([] : List PV) from e]
  obtain ⟨x0, rfl, r0⟩ := flatI g0
  obtain ⟨x1, rfl, r1⟩ := flatI g1
  obtain ⟨x2, rfl, r2⟩ := flatI g2
  obtain ⟨x3, rfl, r3⟩ := flatI g3
  obtain ⟨x4, rfl, r4⟩ := flatI g4
  obtain ⟨x5, rfl, r5⟩ := flatI g5
  obtain ⟨x6, rfl⟩ := flatB g6
  obtain ⟨x7, rfl, r7⟩ := flatI g7
  exact core3 r1 r2
def facts11 : List (Go.SX.BE × Bool) := factsOf 1 2 true
def vt11 : Go.SX.VT := vtl1
set_option maxRecDepth 100000 in
theorem tree_vt11 : (Go.SX.run (Go.SX.callT Try.prog X 100000 6 (Go.SX.shArgs sh 0 0) (Go.SX.shCtx sh facts11 1)) (Go.SX.shSt sh)).vt = vt11 := by kernel_rfl
open Go.SX in
theorem main11 (pv : List Go.SX.PV) (w : World) (hw : Go.SX.pvAll w sh pv) (hf : ∀ be v, (be, v) ∈ facts11 → be.den (Go.SX.envOf (Go.SX.pvNums pv) (Go.SX.withRows fn0 sh pv)) = v) : vt11.holds (Go.SX.envOf (Go.SX.pvNums pv) (Go.SX.withRows fn0 sh pv)) fun v => Go.SX.yes (Go.SX.envOf (Go.SX.pvNums pv) (Go.SX.withRows fn0 sh pv)) v := by
  obtain ⟨p0, _, rfl, g0, p1, _, rfl, g1, p2, _, rfl, g2, p3, _, rfl, g3, p4, _, rfl, g4, p5, _, rfl, g5, p6, _, rfl, g6, p7, _, rfl, g7, e⟩ := hw
  rw [show _ = ([] : List PV) from e]
  obtain ⟨x0, rfl, r0⟩ := flatI g0
  obtain ⟨x1, rfl, r1⟩ := flatI g1
  obtain ⟨x2, rfl, r2⟩ := flatI g2
  obtain ⟨x3, rfl, r3⟩ := flatI g3
  obtain ⟨x4, rfl, r4⟩ := flatI g4
  obtain ⟨x5, rfl, r5⟩ := flatI g5
  obtain ⟨x6, rfl⟩ := flatB g6
  obtain ⟨x7, rfl, r7⟩ := flatI g7
  exact core1 r1 r2
end Go.Proofs.Ytbphajopcmiadaa.protectVoting
