/-
  No cell of these rows narrows 'for every input' (looked for: loops, veiled, ifaces, maps, wideKeys, modest, calm, conditions, laid).
  DERIVED. THE GIVEN ROWS OF THIS SEAT. 3 by the template 'for every input the law returns true; each argument reads behind the call as it read before'; 0 by the template 'total and deterministic' (their statements: YtkibmcpegafdoaaTotals.lean).
  GIVEN WITH THE SEED: the statements are not yours to turn. If you find one false, say at which input.
  Laid BY PROGRAM, IN A SANDBOX (cutbox-rows.mjs): the forced cells as the released guide's own fill.sh prints them over the translation a825fc55313c65b3… (all of the seat's roots in one cut). By AI agents, Wed Nov 11 2026. No macro, syntax, notation, axiom, sorry.
-/
import Derived.Test.YtkibmcpegafdoaaChecked
import GoSem.Claim
import GoSem.ClaimJoined
import GoSem.ClaimMapViews
import Derived.JoinedTies
import Derived.KernelRfl
namespace Go.Proofs.Ytkibmcpegafdoaa
/- THE CELL 'sum', in the pinned program and in every row, IS THE sha256 OF THE DUMP (.gsa) THAT YtkibmcpegafdoaaProg.lean LOADS. Nothing in Lean hashes anything: it is a label: what it is worth is what the hold of that sum in a sandbox is worth. -/
noncomputable def Try.pinned : Pinned := { name := "ytkibmcpegafdoaa", sum := "a825fc55313c65b3a2422df00af3a51c9aebe4b45c6049ee0786a3a13dbb5eef", checked := Try.checked }
namespace Rows
def none {H : Type} : Left H := { results := [], args := [] }

/-- 'coulomblaw06.DriveMotors': WHATEVER THE INPUT: true; the input reads as it did. -/
def driveMotorsSpec : ChangeSpec := { name := "driveMotors", fn := fun _ => fun
  | [d1, d2, d3, d4, d5, d6] => { results := [.lit (.bool true)], args := [d1, d2, d3, d4, d5, d6] }
  | _ => none }
def driveMotorsRow : OpenClaim := { program := "ytkibmcpegafdoaa", sum := "a825fc55313c65b3a2422df00af3a51c9aebe4b45c6049ee0786a3a13dbb5eef", func := "coulomb/coulomblaw06.DriveMotors", spec := "driveMotors", recurses := true, apart := false }
def DriveMotorsSaid : Prop := driveMotorsRow.holds Try.pinned (OpenSpec.ofChange driveMotorsSpec)

/-- ITS FALSE NEIGHBOUR: 'it returns false'. Refute it at one input. -/
def driveMotorsWrong : ChangeSpec := { name := "driveMotors", fn := fun _ => fun
  | [d1, d2, d3, d4, d5, d6] => { results := [.lit (.bool false)], args := [d1, d2, d3, d4, d5, d6] }
  | _ => none }
def DriveMotorsWrongFalsely : Prop := driveMotorsRow.holds Try.pinned (OpenSpec.ofChange driveMotorsWrong)

/-- 'coulomblaw06.DriveLimits': WHATEVER THE INPUT: true; the input reads as it did. -/
def driveLimitsSpec : ChangeSpec := { name := "driveLimits", fn := fun _ => fun
  | [d1, d2, d3, d4, d5, d6] => { results := [.lit (.bool true)], args := [d1, d2, d3, d4, d5, d6] }
  | _ => none }
def driveLimitsRow : OpenClaim := { program := "ytkibmcpegafdoaa", sum := "a825fc55313c65b3a2422df00af3a51c9aebe4b45c6049ee0786a3a13dbb5eef", func := "coulomb/coulomblaw06.DriveLimits", spec := "driveLimits", recurses := true, apart := false }
def DriveLimitsSaid : Prop := driveLimitsRow.holds Try.pinned (OpenSpec.ofChange driveLimitsSpec)

/-- ITS FALSE NEIGHBOUR: 'it returns false'. Refute it at one input. -/
def driveLimitsWrong : ChangeSpec := { name := "driveLimits", fn := fun _ => fun
  | [d1, d2, d3, d4, d5, d6] => { results := [.lit (.bool false)], args := [d1, d2, d3, d4, d5, d6] }
  | _ => none }
def DriveLimitsWrongFalsely : Prop := driveLimitsRow.holds Try.pinned (OpenSpec.ofChange driveLimitsWrong)

/-- 'coulomblaw06.DriveSafe': WHATEVER THE INPUT: true; the input reads as it did. -/
def driveSafeSpec : ChangeSpec := { name := "driveSafe", fn := fun _ => fun
  | [d1, d2, d3, d4, d5] => { results := [.lit (.bool true)], args := [d1, d2, d3, d4, d5] }
  | _ => none }
def driveSafeRow : OpenClaim := { program := "ytkibmcpegafdoaa", sum := "a825fc55313c65b3a2422df00af3a51c9aebe4b45c6049ee0786a3a13dbb5eef", func := "coulomb/coulomblaw06.DriveSafe", spec := "driveSafe", recurses := true, apart := false }
def DriveSafeSaid : Prop := driveSafeRow.holds Try.pinned (OpenSpec.ofChange driveSafeSpec)

/-- ITS FALSE NEIGHBOUR: 'it returns false'. Refute it at one input. -/
def driveSafeWrong : ChangeSpec := { name := "driveSafe", fn := fun _ => fun
  | [d1, d2, d3, d4, d5] => { results := [.lit (.bool false)], args := [d1, d2, d3, d4, d5] }
  | _ => none }
def DriveSafeWrongFalsely : Prop := driveSafeRow.holds Try.pinned (OpenSpec.ofChange driveSafeWrong)

/- THE SECOND FORM. 'bulk': how many values and letters a reading holds, each counted each time it is reached (what is shared counts as often as it is met; a slice's spare places count too). A statement '..UptoSaid' is the law's where the arguments, and the package variables that the reading takes, are together of bulk at most 1048576: NARROWER than '..Said'. Prove '..Said' where nothing that the law and all that it calls make is longer than what came in: it says more and counts as full. Else prove '..UptoSaid'. A law counts once. -/
mutual
def uptoBulk {H : Type} : DataW H → Nat
  | .lit (.string bytes) => bytes.length + 1
  | .lit _ => 1
  | .nil => 1
  | .ptr d => uptoBulk d + 1
  | .slice elems spare => uptoBulkAll elems + uptoBulkAll spare + 1
  | .agg parts => uptoBulkAll parts + 1
  | .iface _ d => uptoBulk d + 1
  | .map entries => uptoBulkEntries entries + 1
  | .held _ => 1
def uptoBulkAll {H : Type} : List (DataW H) → Nat
  | [] => 0
  | d :: r => uptoBulk d + uptoBulkAll r
def uptoBulkEntries {H : Type} : List (Lit × DataW H) → Nat
  | [] => 0
  | x :: r => uptoBulkEntry x + uptoBulkEntries r
def uptoBulkEntry {H : Type} : Lit × DataW H → Nat
  | (.string bytes, d) => bytes.length + uptoBulk d + 1
  | (_, d) => uptoBulk d + 1
 end
def uptoSmall : (H : Type) → List (DataW H) → Bool := fun _ ds => decide (uptoBulkAll ds ≤ 1048576)
def OpenSpec.upto (s : _root_.Go.ChangeSpec) : _root_.Go.OpenSpec := { _root_.Go.OpenSpec.ofChange s with cond := some uptoSmall }

/-- 'coulomblaw06.DriveMotors', WHERE WHAT IT READS IS OF BULK AT MOST 1048576: true; the input reads as it did. -/
def driveMotorsUptoRow : OpenClaim := { program := "ytkibmcpegafdoaa", sum := "a825fc55313c65b3a2422df00af3a51c9aebe4b45c6049ee0786a3a13dbb5eef", func := "coulomb/coulomblaw06.DriveMotors", spec := "driveMotors", recurses := true, apart := false, narrowed := true }
def DriveMotorsUptoSaid : Prop := driveMotorsUptoRow.holds Try.pinned (OpenSpec.upto driveMotorsSpec)

/-- 'coulomblaw06.DriveLimits', WHERE WHAT IT READS IS OF BULK AT MOST 1048576: true; the input reads as it did. -/
def driveLimitsUptoRow : OpenClaim := { program := "ytkibmcpegafdoaa", sum := "a825fc55313c65b3a2422df00af3a51c9aebe4b45c6049ee0786a3a13dbb5eef", func := "coulomb/coulomblaw06.DriveLimits", spec := "driveLimits", recurses := true, apart := false, narrowed := true }
def DriveLimitsUptoSaid : Prop := driveLimitsUptoRow.holds Try.pinned (OpenSpec.upto driveLimitsSpec)

/-- 'coulomblaw06.DriveSafe', WHERE WHAT IT READS IS OF BULK AT MOST 1048576: true; the input reads as it did. -/
def driveSafeUptoRow : OpenClaim := { program := "ytkibmcpegafdoaa", sum := "a825fc55313c65b3a2422df00af3a51c9aebe4b45c6049ee0786a3a13dbb5eef", func := "coulomb/coulomblaw06.DriveSafe", spec := "driveSafe", recurses := true, apart := false, narrowed := true }
def DriveSafeUptoSaid : Prop := driveSafeUptoRow.holds Try.pinned (OpenSpec.upto driveSafeSpec)

end Rows
end Go.Proofs.Ytkibmcpegafdoaa
