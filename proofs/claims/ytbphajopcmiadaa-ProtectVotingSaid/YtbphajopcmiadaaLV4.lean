/- Some of the ways of the law ProtectVoting. -/
import Derived.Test.YtbphajopcmiadaaLV0
namespace Go.Proofs.Ytbphajopcmiadaa.protectVoting
open Go.SX
open Go.ChangeShapes Go.WideShapes Go.ChangeAt Go.RowKit
set_option linter.unusedVariables false
set_option linter.unusedSimpArgs false
def facts18 : List (Go.SX.BE × Bool) := factsOf 3 0 false
def vt18 : Go.SX.VT := vtl0
set_option maxRecDepth 100000 in
theorem tree_vt18 : (Go.SX.run (Go.SX.callT Try.prog X 100000 6 (Go.SX.shArgs sh 0 0) (Go.SX.shCtx sh facts18 1)) (Go.SX.shSt sh)).vt = vt18 := by kernel_rfl
open Go.SX in
theorem main18 (pv : List Go.SX.PV) (w : World) (hw : Go.SX.pvAll w sh pv) (hf : ∀ be v, (be, v) ∈ facts18 → be.den (Go.SX.envOf (Go.SX.pvNums pv) (Go.SX.withRows fn0 sh pv)) = v) : vt18.holds (Go.SX.envOf (Go.SX.pvNums pv) (Go.SX.withRows fn0 sh pv)) fun v => Go.SX.yes (Go.SX.envOf (Go.SX.pvNums pv) (Go.SX.withRows fn0 sh pv)) v := by
  obtain ⟨p0, _, rfl, g0, p1, _, rfl, g1, p2, _, rfl, g2, p3, _, rfl, g3, p4, _, rfl, g4, p5, _, rfl, g5, p6, _, rfl, g6, p7, _, rfl, g7, e⟩ := hw
  rw [show _ = ([] : List PV) from e]
  obtain ⟨x0, rfl, r0⟩ := flatI g0
  obtain ⟨x1, rfl, r1⟩ := flatI g1
  obtain ⟨x2, rfl, r2⟩ := flatI g2
  obtain ⟨x3, rfl, r3⟩ := flatI g3
  obtain ⟨x4, rfl, r4⟩ := flatI g4
  obtain ⟨x5, rfl, r5⟩ := flatI g5
  obtain ⟨x6, rfl⟩ := flatB g6
  obtain ⟨x7, rfl, r7⟩ := flatI g7
  exact core0 r1 r2
def facts19 : List (Go.SX.BE × Bool) := factsOf 3 0 true
def vt19 : Go.SX.VT := vtl1
set_option maxRecDepth 100000 in
theorem tree_vt19 : (Go.SX.run (Go.SX.callT Try.prog X 100000 6 (Go.SX.shArgs sh 0 0) (Go.SX.shCtx sh facts19 1)) (Go.SX.shSt sh)).vt = vt19 := by kernel_rfl
open Go.SX in
theorem main19 (pv : List Go.SX.PV) (w : World) (hw : Go.SX.pvAll w sh pv) (hf : ∀ be v, (be, v) ∈ facts19 → be.den (Go.SX.envOf (Go.SX.pvNums pv) (Go.SX.withRows fn0 sh pv)) = v) : vt19.holds (Go.SX.envOf (Go.SX.pvNums pv) (Go.SX.withRows fn0 sh pv)) fun v => Go.SX.yes (Go.SX.envOf (Go.SX.pvNums pv) (Go.SX.withRows fn0 sh pv)) v := by
  obtain ⟨p0, _, rfl, g0, p1, _, rfl, g1, p2, _, rfl, g2, p3, _, rfl, g3, p4, _, rfl, g4, p5, _, rfl, g5, p6, _, rfl, g6, p7, _, rfl, g7, e⟩ := hw
  rw [show _ = ([] : List PV) from e]
  obtain ⟨x0, rfl, r0⟩ := flatI g0
  obtain ⟨x1, rfl, r1⟩ := flatI g1
  obtain ⟨x2, rfl, r2⟩ := flatI g2
  obtain ⟨x3, rfl, r3⟩ := flatI g3
  obtain ⟨x4, rfl, r4⟩ := flatI g4
  obtain ⟨x5, rfl, r5⟩ := flatI g5
  obtain ⟨x6, rfl⟩ := flatB g6
  obtain ⟨x7, rfl, r7⟩ := flatI g7
  exact core1 r1 r2
def facts20 : List (Go.SX.BE × Bool) := factsOf 3 1 false
def vt20 : Go.SX.VT := vtl2
set_option maxRecDepth 100000 in
theorem tree_vt20 : (Go.SX.run (Go.SX.callT Try.prog X 100000 6 (Go.SX.shArgs sh 0 0) (Go.SX.shCtx sh facts20 1)) (Go.SX.shSt sh)).vt = vt20 := by kernel_rfl
open Go.SX in
theorem main20 (pv : List Go.SX.PV) (w : World) (hw : Go.SX.pvAll w sh pv) (hf : ∀ be v, (be, v) ∈ facts20 → be.den (Go.SX.envOf (Go.SX.pvNums pv) (Go.SX.withRows fn0 sh pv)) = v) : vt20.holds (Go.SX.envOf (Go.SX.pvNums pv) (Go.SX.withRows fn0 sh pv)) fun v => Go.SX.yes (Go.SX.envOf (Go.SX.pvNums pv) (Go.SX.withRows fn0 sh pv)) v := by
  obtain ⟨p0, _, rfl, g0, p1, _, rfl, g1, p2, _, rfl, g2, p3, _, rfl, g3, p4, _, rfl, g4, p5, _, rfl, g5, p6, _, rfl, g6, p7, _, rfl, g7, e⟩ := hw
  rw [show _ = ([] : List PV) from e]
  obtain ⟨x0, rfl, r0⟩ := flatI g0
  obtain ⟨x1, rfl, r1⟩ := flatI g1
  obtain ⟨x2, rfl, r2⟩ := flatI g2
  obtain ⟨x3, rfl, r3⟩ := flatI g3
  obtain ⟨x4, rfl, r4⟩ := flatI g4
  obtain ⟨x5, rfl, r5⟩ := flatI g5
  obtain ⟨x6, rfl⟩ := flatB g6
  obtain ⟨x7, rfl, r7⟩ := flatI g7
  exact core2 r1 r2
def facts21 : List (Go.SX.BE × Bool) := factsOf 3 1 true
def vt21 : Go.SX.VT := vtl1
set_option maxRecDepth 100000 in
theorem tree_vt21 : (Go.SX.run (Go.SX.callT Try.prog X 100000 6 (Go.SX.shArgs sh 0 0) (Go.SX.shCtx sh facts21 1)) (Go.SX.shSt sh)).vt = vt21 := by kernel_rfl
open Go.SX in
theorem main21 (pv : List Go.SX.PV) (w : World) (hw : Go.SX.pvAll w sh pv) (hf : ∀ be v, (be, v) ∈ facts21 → be.den (Go.SX.envOf (Go.SX.pvNums pv) (Go.SX.withRows fn0 sh pv)) = v) : vt21.holds (Go.SX.envOf (Go.SX.pvNums pv) (Go.SX.withRows fn0 sh pv)) fun v => Go.SX.yes (Go.SX.envOf (Go.SX.pvNums pv) (Go.SX.withRows fn0 sh pv)) v := by
  obtain ⟨p0, _, rfl, g0, p1, _, rfl, g1, p2, _, rfl, g2, p3, _, rfl, g3, p4, _, rfl, g4, p5, _, rfl, g5, p6, _, rfl, g6, p7, _, rfl, g7, e⟩ := hw
  rw [show _ = ([] : List PV) from e]
  obtain ⟨x0, rfl, r0⟩ := flatI g0
  obtain ⟨x1, rfl, r1⟩ := flatI g1
  obtain ⟨x2, rfl, r2⟩ := flatI g2
  obtain ⟨x3, rfl, r3⟩ := flatI g3
  obtain ⟨x4, rfl, r4⟩ := flatI g4
  obtain ⟨x5, rfl, r5⟩ := flatI g5
  obtain ⟨x6, rfl⟩ := flatB g6
  obtain ⟨x7, rfl, r7⟩ := flatI g7
  exact core1 r1 r2
def facts22 : List (Go.SX.BE × Bool) := factsOf 3 2 false
def vt22 : Go.SX.VT := vtl3
set_option maxRecDepth 100000 in
theorem tree_vt22 : (Go.SX.run (Go.SX.callT Try.prog X 100000 6 (Go.SX.shArgs sh 0 0) (Go.SX.shCtx sh facts22 1)) (Go.SX.shSt sh)).vt = vt22 := by kernel_rfl
open Go.SX in
theorem main22 (pv : List Go.SX.PV) (w : World) (hw : Go.SX.pvAll w sh pv) (hf : ∀ be v, (be, v) ∈ facts22 → be.den (Go.SX.envOf (Go.SX.pvNums pv) (Go.SX.withRows fn0 sh pv)) = v) : vt22.holds (Go.SX.envOf (Go.SX.pvNums pv) (Go.SX.withRows fn0 sh pv)) fun v => Go.SX.yes (Go.SX.envOf (Go.SX.pvNums pv) (Go.SX.withRows fn0 sh pv)) v := by
  obtain ⟨p0, _, rfl, g0, p1, _, rfl, g1, p2, _, rfl, g2, p3, _, rfl, g3, p4, _, rfl, g4, p5, _, rfl, g5, p6, _, rfl, g6, p7, _, rfl, g7, e⟩ := hw
  rw [show _ = ([] : List PV) from e]
  obtain ⟨x0, rfl, r0⟩ := flatI g0
  obtain ⟨x1, rfl, r1⟩ := flatI g1
  obtain ⟨x2, rfl, r2⟩ := flatI g2
  obtain ⟨x3, rfl, r3⟩ := flatI g3
  obtain ⟨x4, rfl, r4⟩ := flatI g4
  obtain ⟨x5, rfl, r5⟩ := flatI g5
  obtain ⟨x6, rfl⟩ := flatB g6
  obtain ⟨x7, rfl, r7⟩ := flatI g7
  exact core3 r1 r2
def facts23 : List (Go.SX.BE × Bool) := factsOf 3 2 true
def vt23 : Go.SX.VT := vtl1
set_option maxRecDepth 100000 in
theorem tree_vt23 : (Go.SX.run (Go.SX.callT Try.prog X 100000 6 (Go.SX.shArgs sh 0 0) (Go.SX.shCtx sh facts23 1)) (Go.SX.shSt sh)).vt = vt23 := by kernel_rfl
open Go.SX in
theorem main23 (pv : List Go.SX.PV) (w : World) (hw : Go.SX.pvAll w sh pv) (hf : ∀ be v, (be, v) ∈ facts23 → be.den (Go.SX.envOf (Go.SX.pvNums pv) (Go.SX.withRows fn0 sh pv)) = v) : vt23.holds (Go.SX.envOf (Go.SX.pvNums pv) (Go.SX.withRows fn0 sh pv)) fun v => Go.SX.yes (Go.SX.envOf (Go.SX.pvNums pv) (Go.SX.withRows fn0 sh pv)) v := by
  obtain ⟨p0, _, rfl, g0, p1, _, rfl, g1, p2, _, rfl, g2, p3, _, rfl, g3, p4, _, rfl, g4, p5, _, rfl, g5, p6, _, rfl, g6, p7, _, rfl, g7, e⟩ := hw
  rw [show _ = ([] : List PV) from e]
  obtain ⟨x0, rfl, r0⟩ := flatI g0
  obtain ⟨x1, rfl, r1⟩ := flatI g1
  obtain ⟨x2, rfl, r2⟩ := flatI g2
  obtain ⟨x3, rfl, r3⟩ := flatI g3
  obtain ⟨x4, rfl, r4⟩ := flatI g4
  obtain ⟨x5, rfl, r5⟩ := flatI g5
  obtain ⟨x6, rfl⟩ := flatB g6
  obtain ⟨x7, rfl, r7⟩ := flatI g7
  exact core1 r1 r2
end Go.Proofs.Ytbphajopcmiadaa.protectVoting
