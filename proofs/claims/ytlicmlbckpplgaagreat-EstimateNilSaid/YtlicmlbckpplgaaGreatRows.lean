/-
  No cell of these rows narrows 'for every input' (looked for: loops, veiled, ifaces, maps, wideKeys, modest, calm, conditions, laid).
  DERIVED. THE GIVEN ROWS OF THIS SEAT. 7 by the template 'for every input the law returns true; each argument reads behind the call as it read before'; 0 by the template 'total and deterministic' (their statements: YtlicmlbckpplgaaGreatTotals.lean).
  GIVEN WITH THE SEED: the statements are not yours to turn. If you find one false, say at which input.
  Laid BY PROGRAM, IN A SANDBOX (cutbox-rows.mjs): the forced cells as the released guide's own fill.sh prints them over the translation 39a722fd8430a126… (all of the seat's roots in one cut). By AI agents, Wed Nov 11 2026. No macro, syntax, notation, axiom, sorry.
-/
import Derived.Test.YtlicmlbckpplgaaGreatChecked
import GoSem.Claim
import GoSem.ClaimJoined
import GoSem.ClaimMapViews
import Derived.JoinedTies
import Derived.KernelRfl
namespace Go.Proofs.YtlicmlbckpplgaaGreat
/- THE CELL 'sum', in the pinned program and in every row, IS THE sha256 OF THE DUMP (.gsa) THAT YtlicmlbckpplgaaGreatProg.lean LOADS. Nothing in Lean hashes anything: it is a label: what it is worth is what the hold of that sum in a sandbox is worth. -/
noncomputable def Tryz.pinned : Pinned := { name := "ytlicmlbckpplgaagreat", sum := "39a722fd8430a12682d92483b318e9259ac5c0ac8cd639595698091f94ceef1b", checked := Tryz.checked }
namespace Rows
def none {H : Type} : Left H := { results := [], args := [] }

/-- 'coulomblaw03.EstimateWatches': WHATEVER THE INPUT: true; the input reads as it did. -/
def estimateWatchesSpec : ChangeSpec := { name := "estimateWatches", fn := fun _ => fun
  | [d1, d2, d3] => { results := [.lit (.bool true)], args := [d1, d2, d3] }
  | _ => none }
def estimateWatchesRow : OpenClaim := { program := "ytlicmlbckpplgaagreat", sum := "39a722fd8430a12682d92483b318e9259ac5c0ac8cd639595698091f94ceef1b", func := "coulomb/coulomblaw03.EstimateWatches", spec := "estimateWatches", unfollowed := true, recurses := true, named := ["math/bits.divideError", "math/bits.overflowError"], apart := false }
def EstimateWatchesSaid : Prop := estimateWatchesRow.holds Tryz.pinned (OpenSpec.ofChange estimateWatchesSpec)

/-- ITS FALSE NEIGHBOUR: 'it returns false'. Refute it at one input. -/
def estimateWatchesWrong : ChangeSpec := { name := "estimateWatches", fn := fun _ => fun
  | [d1, d2, d3] => { results := [.lit (.bool false)], args := [d1, d2, d3] }
  | _ => none }
def EstimateWatchesWrongFalsely : Prop := estimateWatchesRow.holds Tryz.pinned (OpenSpec.ofChange estimateWatchesWrong)

/-- 'coulomblaw03.EstimateFilters': WHATEVER THE INPUT: true; the input reads as it did. -/
def estimateFiltersSpec : ChangeSpec := { name := "estimateFilters", fn := fun _ => fun
  | [d1, d2, d3, d4, d5] => { results := [.lit (.bool true)], args := [d1, d2, d3, d4, d5] }
  | _ => none }
def estimateFiltersRow : OpenClaim := { program := "ytlicmlbckpplgaagreat", sum := "39a722fd8430a12682d92483b318e9259ac5c0ac8cd639595698091f94ceef1b", func := "coulomb/coulomblaw03.EstimateFilters", spec := "estimateFilters", unfollowed := true, recurses := true, named := ["math/bits.divideError", "math/bits.overflowError"], apart := false }
def EstimateFiltersSaid : Prop := estimateFiltersRow.holds Tryz.pinned (OpenSpec.ofChange estimateFiltersSpec)

/-- ITS FALSE NEIGHBOUR: 'it returns false'. Refute it at one input. -/
def estimateFiltersWrong : ChangeSpec := { name := "estimateFilters", fn := fun _ => fun
  | [d1, d2, d3, d4, d5] => { results := [.lit (.bool false)], args := [d1, d2, d3, d4, d5] }
  | _ => none }
def EstimateFiltersWrongFalsely : Prop := estimateFiltersRow.holds Tryz.pinned (OpenSpec.ofChange estimateFiltersWrong)

/-- 'coulomblaw03.EstimateNil': WHATEVER THE INPUT: true; the input reads as it did. -/
def estimateNilSpec : ChangeSpec := { name := "estimateNil", fn := fun _ => fun
  | [d1, d2] => { results := [.lit (.bool true)], args := [d1, d2] }
  | _ => none }
def estimateNilRow : OpenClaim := { program := "ytlicmlbckpplgaagreat", sum := "39a722fd8430a12682d92483b318e9259ac5c0ac8cd639595698091f94ceef1b", func := "coulomb/coulomblaw03.EstimateNil", spec := "estimateNil", unfollowed := true, recurses := true, named := ["math/bits.divideError", "math/bits.overflowError"], apart := false }
def EstimateNilSaid : Prop := estimateNilRow.holds Tryz.pinned (OpenSpec.ofChange estimateNilSpec)

/-- ITS FALSE NEIGHBOUR: 'it returns false'. Refute it at one input. -/
def estimateNilWrong : ChangeSpec := { name := "estimateNil", fn := fun _ => fun
  | [d1, d2] => { results := [.lit (.bool false)], args := [d1, d2] }
  | _ => none }
def EstimateNilWrongFalsely : Prop := estimateNilRow.holds Tryz.pinned (OpenSpec.ofChange estimateNilWrong)

/-- 'coulomblaw03.EstimateKeeps': WHATEVER THE INPUT: true; the input reads as it did. -/
def estimateKeepsSpec : ChangeSpec := { name := "estimateKeeps", fn := fun _ => fun
  | [d1, d2] => { results := [.lit (.bool true)], args := [d1, d2] }
  | _ => none }
def estimateKeepsRow : OpenClaim := { program := "ytlicmlbckpplgaagreat", sum := "39a722fd8430a12682d92483b318e9259ac5c0ac8cd639595698091f94ceef1b", func := "coulomb/coulomblaw03.EstimateKeeps", spec := "estimateKeeps", unfollowed := true, recurses := true, named := ["math/bits.divideError", "math/bits.overflowError"], apart := false }
def EstimateKeepsSaid : Prop := estimateKeepsRow.holds Tryz.pinned (OpenSpec.ofChange estimateKeepsSpec)

/-- ITS FALSE NEIGHBOUR: 'it returns false'. Refute it at one input. -/
def estimateKeepsWrong : ChangeSpec := { name := "estimateKeeps", fn := fun _ => fun
  | [d1, d2] => { results := [.lit (.bool false)], args := [d1, d2] }
  | _ => none }
def EstimateKeepsWrongFalsely : Prop := estimateKeepsRow.holds Tryz.pinned (OpenSpec.ofChange estimateKeepsWrong)

/-- 'coulomblaw03.EstimateNow': WHATEVER THE INPUT: true; the input reads as it did. -/
def estimateNowSpec : ChangeSpec := { name := "estimateNow", fn := fun _ => fun
  | [d1, d2, d3, d4, d5] => { results := [.lit (.bool true)], args := [d1, d2, d3, d4, d5] }
  | _ => none }
def estimateNowRow : OpenClaim := { program := "ytlicmlbckpplgaagreat", sum := "39a722fd8430a12682d92483b318e9259ac5c0ac8cd639595698091f94ceef1b", func := "coulomb/coulomblaw03.EstimateNow", spec := "estimateNow", unfollowed := true, recurses := true, named := ["math/bits.divideError", "math/bits.overflowError"], apart := false }
def EstimateNowSaid : Prop := estimateNowRow.holds Tryz.pinned (OpenSpec.ofChange estimateNowSpec)

/-- ITS FALSE NEIGHBOUR: 'it returns false'. Refute it at one input. -/
def estimateNowWrong : ChangeSpec := { name := "estimateNow", fn := fun _ => fun
  | [d1, d2, d3, d4, d5] => { results := [.lit (.bool false)], args := [d1, d2, d3, d4, d5] }
  | _ => none }
def EstimateNowWrongFalsely : Prop := estimateNowRow.holds Tryz.pinned (OpenSpec.ofChange estimateNowWrong)

/-- 'coulomblaw03.EstimateNarrows': WHATEVER THE INPUT: true; the input reads as it did. -/
def estimateNarrowsSpec : ChangeSpec := { name := "estimateNarrows", fn := fun _ => fun
  | [d1, d2, d3] => { results := [.lit (.bool true)], args := [d1, d2, d3] }
  | _ => none }
def estimateNarrowsRow : OpenClaim := { program := "ytlicmlbckpplgaagreat", sum := "39a722fd8430a12682d92483b318e9259ac5c0ac8cd639595698091f94ceef1b", func := "coulomb/coulomblaw03.EstimateNarrows", spec := "estimateNarrows", unfollowed := true, recurses := true, named := ["math/bits.divideError", "math/bits.overflowError"], apart := false }
def EstimateNarrowsSaid : Prop := estimateNarrowsRow.holds Tryz.pinned (OpenSpec.ofChange estimateNarrowsSpec)

/-- ITS FALSE NEIGHBOUR: 'it returns false'. Refute it at one input. -/
def estimateNarrowsWrong : ChangeSpec := { name := "estimateNarrows", fn := fun _ => fun
  | [d1, d2, d3] => { results := [.lit (.bool false)], args := [d1, d2, d3] }
  | _ => none }
def EstimateNarrowsWrongFalsely : Prop := estimateNarrowsRow.holds Tryz.pinned (OpenSpec.ofChange estimateNarrowsWrong)

/-- 'coulomblaw03.EstimateFinds': WHATEVER THE INPUT: true; the input reads as it did. -/
def estimateFindsSpec : ChangeSpec := { name := "estimateFinds", fn := fun _ => fun
  | [d1, d2] => { results := [.lit (.bool true)], args := [d1, d2] }
  | _ => none }
def estimateFindsRow : OpenClaim := { program := "ytlicmlbckpplgaagreat", sum := "39a722fd8430a12682d92483b318e9259ac5c0ac8cd639595698091f94ceef1b", func := "coulomb/coulomblaw03.EstimateFinds", spec := "estimateFinds", unfollowed := true, recurses := true, named := ["math/bits.divideError", "math/bits.overflowError"], apart := false }
def EstimateFindsSaid : Prop := estimateFindsRow.holds Tryz.pinned (OpenSpec.ofChange estimateFindsSpec)

/-- ITS FALSE NEIGHBOUR: 'it returns false'. Refute it at one input. -/
def estimateFindsWrong : ChangeSpec := { name := "estimateFinds", fn := fun _ => fun
  | [d1, d2] => { results := [.lit (.bool false)], args := [d1, d2] }
  | _ => none }
def EstimateFindsWrongFalsely : Prop := estimateFindsRow.holds Tryz.pinned (OpenSpec.ofChange estimateFindsWrong)

/- THE SECOND FORM. 'bulk': how many values and letters a reading holds, each counted each time it is reached (what is shared counts as often as it is met; a slice's spare places count too). A statement '..UptoSaid' is the law's where the arguments, and the package variables that the reading takes, are together of bulk at most 1048576: NARROWER than '..Said'. Prove '..Said' where nothing that the law and all that it calls make is longer than what came in: it says more and counts as full. Else prove '..UptoSaid'. A law counts once. -/
mutual
def uptoBulk {H : Type} : DataW H → Nat
  | .lit (.string bytes) => bytes.length + 1
  | .lit _ => 1
  | .nil => 1
  | .ptr d => uptoBulk d + 1
  | .slice elems spare => uptoBulkAll elems + uptoBulkAll spare + 1
  | .agg parts => uptoBulkAll parts + 1
  | .iface _ d => uptoBulk d + 1
  | .map entries => uptoBulkEntries entries + 1
  | .held _ => 1
def uptoBulkAll {H : Type} : List (DataW H) → Nat
  | [] => 0
  | d :: r => uptoBulk d + uptoBulkAll r
def uptoBulkEntries {H : Type} : List (Lit × DataW H) → Nat
  | [] => 0
  | x :: r => uptoBulkEntry x + uptoBulkEntries r
def uptoBulkEntry {H : Type} : Lit × DataW H → Nat
  | (.string bytes, d) => bytes.length + uptoBulk d + 1
  | (_, d) => uptoBulk d + 1
 end
def uptoSmall : (H : Type) → List (DataW H) → Bool := fun _ ds => decide (uptoBulkAll ds ≤ 1048576)
def OpenSpec.upto (s : _root_.Go.ChangeSpec) : _root_.Go.OpenSpec := { _root_.Go.OpenSpec.ofChange s with cond := some uptoSmall }

/-- 'coulomblaw03.EstimateWatches', WHERE WHAT IT READS IS OF BULK AT MOST 1048576: true; the input reads as it did. -/
def estimateWatchesUptoRow : OpenClaim := { program := "ytlicmlbckpplgaagreat", sum := "39a722fd8430a12682d92483b318e9259ac5c0ac8cd639595698091f94ceef1b", func := "coulomb/coulomblaw03.EstimateWatches", spec := "estimateWatches", unfollowed := true, recurses := true, named := ["math/bits.divideError", "math/bits.overflowError"], apart := false, narrowed := true }
def EstimateWatchesUptoSaid : Prop := estimateWatchesUptoRow.holds Tryz.pinned (OpenSpec.upto estimateWatchesSpec)

/-- 'coulomblaw03.EstimateFilters', WHERE WHAT IT READS IS OF BULK AT MOST 1048576: true; the input reads as it did. -/
def estimateFiltersUptoRow : OpenClaim := { program := "ytlicmlbckpplgaagreat", sum := "39a722fd8430a12682d92483b318e9259ac5c0ac8cd639595698091f94ceef1b", func := "coulomb/coulomblaw03.EstimateFilters", spec := "estimateFilters", unfollowed := true, recurses := true, named := ["math/bits.divideError", "math/bits.overflowError"], apart := false, narrowed := true }
def EstimateFiltersUptoSaid : Prop := estimateFiltersUptoRow.holds Tryz.pinned (OpenSpec.upto estimateFiltersSpec)

/-- 'coulomblaw03.EstimateNil', WHERE WHAT IT READS IS OF BULK AT MOST 1048576: true; the input reads as it did. -/
def estimateNilUptoRow : OpenClaim := { program := "ytlicmlbckpplgaagreat", sum := "39a722fd8430a12682d92483b318e9259ac5c0ac8cd639595698091f94ceef1b", func := "coulomb/coulomblaw03.EstimateNil", spec := "estimateNil", unfollowed := true, recurses := true, named := ["math/bits.divideError", "math/bits.overflowError"], apart := false, narrowed := true }
def EstimateNilUptoSaid : Prop := estimateNilUptoRow.holds Tryz.pinned (OpenSpec.upto estimateNilSpec)

/-- 'coulomblaw03.EstimateKeeps', WHERE WHAT IT READS IS OF BULK AT MOST 1048576: true; the input reads as it did. -/
def estimateKeepsUptoRow : OpenClaim := { program := "ytlicmlbckpplgaagreat", sum := "39a722fd8430a12682d92483b318e9259ac5c0ac8cd639595698091f94ceef1b", func := "coulomb/coulomblaw03.EstimateKeeps", spec := "estimateKeeps", unfollowed := true, recurses := true, named := ["math/bits.divideError", "math/bits.overflowError"], apart := false, narrowed := true }
def EstimateKeepsUptoSaid : Prop := estimateKeepsUptoRow.holds Tryz.pinned (OpenSpec.upto estimateKeepsSpec)

/-- 'coulomblaw03.EstimateNow', WHERE WHAT IT READS IS OF BULK AT MOST 1048576: true; the input reads as it did. -/
def estimateNowUptoRow : OpenClaim := { program := "ytlicmlbckpplgaagreat", sum := "39a722fd8430a12682d92483b318e9259ac5c0ac8cd639595698091f94ceef1b", func := "coulomb/coulomblaw03.EstimateNow", spec := "estimateNow", unfollowed := true, recurses := true, named := ["math/bits.divideError", "math/bits.overflowError"], apart := false, narrowed := true }
def EstimateNowUptoSaid : Prop := estimateNowUptoRow.holds Tryz.pinned (OpenSpec.upto estimateNowSpec)

/-- 'coulomblaw03.EstimateNarrows', WHERE WHAT IT READS IS OF BULK AT MOST 1048576: true; the input reads as it did. -/
def estimateNarrowsUptoRow : OpenClaim := { program := "ytlicmlbckpplgaagreat", sum := "39a722fd8430a12682d92483b318e9259ac5c0ac8cd639595698091f94ceef1b", func := "coulomb/coulomblaw03.EstimateNarrows", spec := "estimateNarrows", unfollowed := true, recurses := true, named := ["math/bits.divideError", "math/bits.overflowError"], apart := false, narrowed := true }
def EstimateNarrowsUptoSaid : Prop := estimateNarrowsUptoRow.holds Tryz.pinned (OpenSpec.upto estimateNarrowsSpec)

/-- 'coulomblaw03.EstimateFinds', WHERE WHAT IT READS IS OF BULK AT MOST 1048576: true; the input reads as it did. -/
def estimateFindsUptoRow : OpenClaim := { program := "ytlicmlbckpplgaagreat", sum := "39a722fd8430a12682d92483b318e9259ac5c0ac8cd639595698091f94ceef1b", func := "coulomb/coulomblaw03.EstimateFinds", spec := "estimateFinds", unfollowed := true, recurses := true, named := ["math/bits.divideError", "math/bits.overflowError"], apart := false, narrowed := true }
def EstimateFindsUptoSaid : Prop := estimateFindsUptoRow.holds Tryz.pinned (OpenSpec.upto estimateFindsSpec)

end Rows
end Go.Proofs.YtlicmlbckpplgaaGreat
