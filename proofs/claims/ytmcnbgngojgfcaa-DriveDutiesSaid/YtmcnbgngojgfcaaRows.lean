/-
  No cell of these rows narrows 'for every input' (looked for: loops, veiled, ifaces, maps, wideKeys, modest, calm, conditions, laid).
  DERIVED. THE GIVEN ROWS OF THIS SEAT. 6 by the template 'for every input the law returns true; each argument reads behind the call as it read before'; 0 by the template 'total and deterministic' (their statements: YtmcnbgngojgfcaaTotals.lean).
  GIVEN WITH THE SEED: the statements are not yours to turn. If you find one false, say at which input.
  Laid BY PROGRAM, IN A SANDBOX (cutbox-rows.mjs): the forced cells as the released guide's own fill.sh prints them over the translation 269a0d921dcd0a34… (all of the seat's roots in one cut). By AI agents, Wed Nov 11 2026. No macro, syntax, notation, axiom, sorry.
-/
import Derived.Test.YtmcnbgngojgfcaaChecked
import GoSem.Claim
import GoSem.ClaimJoined
import GoSem.ClaimMapViews
import Derived.JoinedTies
import Derived.KernelRfl
namespace Go.Proofs.Ytmcnbgngojgfcaa
/- THE CELL 'sum', in the pinned program and in every row, IS THE sha256 OF THE DUMP (.gsa) THAT YtmcnbgngojgfcaaProg.lean LOADS. Nothing in Lean hashes anything: it is a label: what it is worth is what the hold of that sum in a sandbox is worth. -/
noncomputable def Try.pinned : Pinned := { name := "ytmcnbgngojgfcaa", sum := "269a0d921dcd0a34143f48b91ae4aa8fd5feadbfc8021df3b38151d2f629d276", checked := Try.checked }
namespace Rows
def none {H : Type} : Left H := { results := [], args := [] }

/-- 'coulomblaw06.DriveTurns': WHATEVER THE INPUT: true; the input reads as it did. -/
def driveTurnsSpec : ChangeSpec := { name := "driveTurns", fn := fun _ => fun
  | [d1, d2, d3, d4, d5] => { results := [.lit (.bool true)], args := [d1, d2, d3, d4, d5] }
  | _ => none }
def driveTurnsRow : OpenClaim := { program := "ytmcnbgngojgfcaa", sum := "269a0d921dcd0a34143f48b91ae4aa8fd5feadbfc8021df3b38151d2f629d276", func := "coulomb/coulomblaw06.DriveTurns", spec := "driveTurns", recurses := true, apart := false }
def DriveTurnsSaid : Prop := driveTurnsRow.holds Try.pinned (OpenSpec.ofChange driveTurnsSpec)

/-- ITS FALSE NEIGHBOUR: 'it returns false'. Refute it at one input. -/
def driveTurnsWrong : ChangeSpec := { name := "driveTurns", fn := fun _ => fun
  | [d1, d2, d3, d4, d5] => { results := [.lit (.bool false)], args := [d1, d2, d3, d4, d5] }
  | _ => none }
def DriveTurnsWrongFalsely : Prop := driveTurnsRow.holds Try.pinned (OpenSpec.ofChange driveTurnsWrong)

/-- 'coulomblaw06.DriveRegulates': WHATEVER THE INPUT: true; the input reads as it did. -/
def driveRegulatesSpec : ChangeSpec := { name := "driveRegulates", fn := fun _ => fun
  | [d1, d2, d3, d4] => { results := [.lit (.bool true)], args := [d1, d2, d3, d4] }
  | _ => none }
def driveRegulatesRow : OpenClaim := { program := "ytmcnbgngojgfcaa", sum := "269a0d921dcd0a34143f48b91ae4aa8fd5feadbfc8021df3b38151d2f629d276", func := "coulomb/coulomblaw06.DriveRegulates", spec := "driveRegulates", recurses := true, apart := false }
def DriveRegulatesSaid : Prop := driveRegulatesRow.holds Try.pinned (OpenSpec.ofChange driveRegulatesSpec)

/-- ITS FALSE NEIGHBOUR: 'it returns false'. Refute it at one input. -/
def driveRegulatesWrong : ChangeSpec := { name := "driveRegulates", fn := fun _ => fun
  | [d1, d2, d3, d4] => { results := [.lit (.bool false)], args := [d1, d2, d3, d4] }
  | _ => none }
def DriveRegulatesWrongFalsely : Prop := driveRegulatesRow.holds Try.pinned (OpenSpec.ofChange driveRegulatesWrong)

/-- 'coulomblaw06.DriveSines': WHATEVER THE INPUT: true; the input reads as it did. -/
def driveSinesSpec : ChangeSpec := { name := "driveSines", fn := fun _ => fun
  | [d] => { results := [.lit (.bool true)], args := [d] }
  | _ => none }
def driveSinesRow : OpenClaim := { program := "ytmcnbgngojgfcaa", sum := "269a0d921dcd0a34143f48b91ae4aa8fd5feadbfc8021df3b38151d2f629d276", func := "coulomb/coulomblaw06.DriveSines", spec := "driveSines", recurses := true, apart := false }
def DriveSinesSaid : Prop := driveSinesRow.holds Try.pinned (OpenSpec.ofChange driveSinesSpec)

/-- ITS FALSE NEIGHBOUR: 'it returns false'. Refute it at one input. -/
def driveSinesWrong : ChangeSpec := { name := "driveSines", fn := fun _ => fun
  | [d] => { results := [.lit (.bool false)], args := [d] }
  | _ => none }
def DriveSinesWrongFalsely : Prop := driveSinesRow.holds Try.pinned (OpenSpec.ofChange driveSinesWrong)

/-- 'coulomblaw06.DriveDuties': WHATEVER THE INPUT: true; the input reads as it did. -/
def driveDutiesSpec : ChangeSpec := { name := "driveDuties", fn := fun _ => fun
  | [d1, d2] => { results := [.lit (.bool true)], args := [d1, d2] }
  | _ => none }
def driveDutiesRow : OpenClaim := { program := "ytmcnbgngojgfcaa", sum := "269a0d921dcd0a34143f48b91ae4aa8fd5feadbfc8021df3b38151d2f629d276", func := "coulomb/coulomblaw06.DriveDuties", spec := "driveDuties", recurses := true, apart := false }
def DriveDutiesSaid : Prop := driveDutiesRow.holds Try.pinned (OpenSpec.ofChange driveDutiesSpec)

/-- ITS FALSE NEIGHBOUR: 'it returns false'. Refute it at one input. -/
def driveDutiesWrong : ChangeSpec := { name := "driveDuties", fn := fun _ => fun
  | [d1, d2] => { results := [.lit (.bool false)], args := [d1, d2] }
  | _ => none }
def DriveDutiesWrongFalsely : Prop := driveDutiesRow.holds Try.pinned (OpenSpec.ofChange driveDutiesWrong)

/-- 'coulomblaw06.DriveBrakes': WHATEVER THE INPUT: true; the input reads as it did. -/
def driveBrakesSpec : ChangeSpec := { name := "driveBrakes", fn := fun _ => fun
  | [d1, d2, d3] => { results := [.lit (.bool true)], args := [d1, d2, d3] }
  | _ => none }
def driveBrakesRow : OpenClaim := { program := "ytmcnbgngojgfcaa", sum := "269a0d921dcd0a34143f48b91ae4aa8fd5feadbfc8021df3b38151d2f629d276", func := "coulomb/coulomblaw06.DriveBrakes", spec := "driveBrakes", recurses := true, apart := false }
def DriveBrakesSaid : Prop := driveBrakesRow.holds Try.pinned (OpenSpec.ofChange driveBrakesSpec)

/-- ITS FALSE NEIGHBOUR: 'it returns false'. Refute it at one input. -/
def driveBrakesWrong : ChangeSpec := { name := "driveBrakes", fn := fun _ => fun
  | [d1, d2, d3] => { results := [.lit (.bool false)], args := [d1, d2, d3] }
  | _ => none }
def DriveBrakesWrongFalsely : Prop := driveBrakesRow.holds Try.pinned (OpenSpec.ofChange driveBrakesWrong)

/-- 'coulomblaw06.DriveKnown': WHATEVER THE INPUT: true; the input reads as it did. -/
def driveKnownSpec : ChangeSpec := { name := "driveKnown", fn := fun _ => fun
  | [] => { results := [.lit (.bool true)], args := [] }
  | _ => none }
def driveKnownRow : OpenClaim := { program := "ytmcnbgngojgfcaa", sum := "269a0d921dcd0a34143f48b91ae4aa8fd5feadbfc8021df3b38151d2f629d276", func := "coulomb/coulomblaw06.DriveKnown", spec := "driveKnown", unfollowed := true, recurses := true, apart := false }
def DriveKnownSaid : Prop := driveKnownRow.holds Try.pinned (OpenSpec.ofChange driveKnownSpec)

/-- ITS FALSE NEIGHBOUR: 'it returns false'. Refute it at one input. -/
def driveKnownWrong : ChangeSpec := { name := "driveKnown", fn := fun _ => fun
  | [] => { results := [.lit (.bool false)], args := [] }
  | _ => none }
def DriveKnownWrongFalsely : Prop := driveKnownRow.holds Try.pinned (OpenSpec.ofChange driveKnownWrong)

/- THE SECOND FORM. 'bulk': how many values and letters a reading holds, each counted each time it is reached (what is shared counts as often as it is met; a slice's spare places count too). A statement '..UptoSaid' is the law's where the arguments, and the package variables that the reading takes, are together of bulk at most 1048576: NARROWER than '..Said'. Prove '..Said' where nothing that the law and all that it calls make is longer than what came in: it says more and counts as full. Else prove '..UptoSaid'. A law counts once. -/
mutual
def uptoBulk {H : Type} : DataW H → Nat
  | .lit (.string bytes) => bytes.length + 1
  | .lit _ => 1
  | .nil => 1
  | .ptr d => uptoBulk d + 1
  | .slice elems spare => uptoBulkAll elems + uptoBulkAll spare + 1
  | .agg parts => uptoBulkAll parts + 1
  | .iface _ d => uptoBulk d + 1
  | .map entries => uptoBulkEntries entries + 1
  | .held _ => 1
def uptoBulkAll {H : Type} : List (DataW H) → Nat
  | [] => 0
  | d :: r => uptoBulk d + uptoBulkAll r
def uptoBulkEntries {H : Type} : List (Lit × DataW H) → Nat
  | [] => 0
  | x :: r => uptoBulkEntry x + uptoBulkEntries r
def uptoBulkEntry {H : Type} : Lit × DataW H → Nat
  | (.string bytes, d) => bytes.length + uptoBulk d + 1
  | (_, d) => uptoBulk d + 1
 end
def uptoSmall : (H : Type) → List (DataW H) → Bool := fun _ ds => decide (uptoBulkAll ds ≤ 1048576)
def OpenSpec.upto (s : _root_.Go.ChangeSpec) : _root_.Go.OpenSpec := { _root_.Go.OpenSpec.ofChange s with cond := some uptoSmall }

/-- 'coulomblaw06.DriveTurns', WHERE WHAT IT READS IS OF BULK AT MOST 1048576: true; the input reads as it did. -/
def driveTurnsUptoRow : OpenClaim := { program := "ytmcnbgngojgfcaa", sum := "269a0d921dcd0a34143f48b91ae4aa8fd5feadbfc8021df3b38151d2f629d276", func := "coulomb/coulomblaw06.DriveTurns", spec := "driveTurns", recurses := true, apart := false, narrowed := true }
def DriveTurnsUptoSaid : Prop := driveTurnsUptoRow.holds Try.pinned (OpenSpec.upto driveTurnsSpec)

/-- 'coulomblaw06.DriveRegulates', WHERE WHAT IT READS IS OF BULK AT MOST 1048576: true; the input reads as it did. -/
def driveRegulatesUptoRow : OpenClaim := { program := "ytmcnbgngojgfcaa", sum := "269a0d921dcd0a34143f48b91ae4aa8fd5feadbfc8021df3b38151d2f629d276", func := "coulomb/coulomblaw06.DriveRegulates", spec := "driveRegulates", recurses := true, apart := false, narrowed := true }
def DriveRegulatesUptoSaid : Prop := driveRegulatesUptoRow.holds Try.pinned (OpenSpec.upto driveRegulatesSpec)

/-- 'coulomblaw06.DriveSines', WHERE WHAT IT READS IS OF BULK AT MOST 1048576: true; the input reads as it did. -/
def driveSinesUptoRow : OpenClaim := { program := "ytmcnbgngojgfcaa", sum := "269a0d921dcd0a34143f48b91ae4aa8fd5feadbfc8021df3b38151d2f629d276", func := "coulomb/coulomblaw06.DriveSines", spec := "driveSines", recurses := true, apart := false, narrowed := true }
def DriveSinesUptoSaid : Prop := driveSinesUptoRow.holds Try.pinned (OpenSpec.upto driveSinesSpec)

/-- 'coulomblaw06.DriveDuties', WHERE WHAT IT READS IS OF BULK AT MOST 1048576: true; the input reads as it did. -/
def driveDutiesUptoRow : OpenClaim := { program := "ytmcnbgngojgfcaa", sum := "269a0d921dcd0a34143f48b91ae4aa8fd5feadbfc8021df3b38151d2f629d276", func := "coulomb/coulomblaw06.DriveDuties", spec := "driveDuties", recurses := true, apart := false, narrowed := true }
def DriveDutiesUptoSaid : Prop := driveDutiesUptoRow.holds Try.pinned (OpenSpec.upto driveDutiesSpec)

/-- 'coulomblaw06.DriveBrakes', WHERE WHAT IT READS IS OF BULK AT MOST 1048576: true; the input reads as it did. -/
def driveBrakesUptoRow : OpenClaim := { program := "ytmcnbgngojgfcaa", sum := "269a0d921dcd0a34143f48b91ae4aa8fd5feadbfc8021df3b38151d2f629d276", func := "coulomb/coulomblaw06.DriveBrakes", spec := "driveBrakes", recurses := true, apart := false, narrowed := true }
def DriveBrakesUptoSaid : Prop := driveBrakesUptoRow.holds Try.pinned (OpenSpec.upto driveBrakesSpec)

/-- 'coulomblaw06.DriveKnown', WHERE WHAT IT READS IS OF BULK AT MOST 1048576: true; the input reads as it did. -/
def driveKnownUptoRow : OpenClaim := { program := "ytmcnbgngojgfcaa", sum := "269a0d921dcd0a34143f48b91ae4aa8fd5feadbfc8021df3b38151d2f629d276", func := "coulomb/coulomblaw06.DriveKnown", spec := "driveKnown", unfollowed := true, recurses := true, apart := false, narrowed := true }
def DriveKnownUptoSaid : Prop := driveKnownUptoRow.holds Try.pinned (OpenSpec.upto driveKnownSpec)

end Rows
end Go.Proofs.Ytmcnbgngojgfcaa
