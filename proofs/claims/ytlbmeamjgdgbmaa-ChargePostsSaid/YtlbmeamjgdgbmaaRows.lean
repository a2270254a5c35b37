/-
  No cell of these rows narrows 'for every input' (looked for: loops, veiled, ifaces, maps, wideKeys, modest, calm, conditions, laid).
  DERIVED. THE GIVEN ROWS OF THIS SEAT. 4 by the template 'for every input the law returns true; each argument reads behind the call as it read before'; 0 by the template 'total and deterministic' (their statements: YtlbmeamjgdgbmaaTotals.lean).
  GIVEN WITH THE SEED: the statements are not yours to turn. If you find one false, say at which input.
  Laid BY PROGRAM, IN A SANDBOX (cutbox-rows.mjs): the forced cells as the released guide's own fill.sh prints them over the translation 4efc2a000e589448… (all of the seat's roots in one cut). By AI agents, Wed Nov 11 2026. No macro, syntax, notation, axiom, sorry.
-/
import Derived.Test.YtlbmeamjgdgbmaaChecked
import GoSem.Claim
import GoSem.ClaimJoined
import GoSem.ClaimMapViews
import Derived.JoinedTies
import Derived.KernelRfl
namespace Go.Proofs.Ytlbmeamjgdgbmaa
/- THE CELL 'sum', in the pinned program and in every row, IS THE sha256 OF THE DUMP (.gsa) THAT YtlbmeamjgdgbmaaProg.lean LOADS. Nothing in Lean hashes anything: it is a label: what it is worth is what the hold of that sum in a sandbox is worth. -/
noncomputable def Try.pinned : Pinned := { name := "ytlbmeamjgdgbmaa", sum := "4efc2a000e5894484e5e7a411b2d4fc8de48506db9f8894f6af76f1018e9c5fc", checked := Try.checked }
namespace Rows
def none {H : Type} : Left H := { results := [], args := [] }

/-- 'coulomblaw09.ChargeTariffs': WHATEVER THE INPUT: true; the input reads as it did. -/
def chargeTariffsSpec : ChangeSpec := { name := "chargeTariffs", fn := fun _ => fun
  | [d1, d2, d3, d4] => { results := [.lit (.bool true)], args := [d1, d2, d3, d4] }
  | _ => none }
def chargeTariffsRow : OpenClaim := { program := "ytlbmeamjgdgbmaa", sum := "4efc2a000e5894484e5e7a411b2d4fc8de48506db9f8894f6af76f1018e9c5fc", func := "coulomb/coulomblaw09.ChargeTariffs", spec := "chargeTariffs", apart := false }
def ChargeTariffsSaid : Prop := chargeTariffsRow.holds Try.pinned (OpenSpec.ofChange chargeTariffsSpec)

/-- ITS FALSE NEIGHBOUR: 'it returns false'. Refute it at one input. -/
def chargeTariffsWrong : ChangeSpec := { name := "chargeTariffs", fn := fun _ => fun
  | [d1, d2, d3, d4] => { results := [.lit (.bool false)], args := [d1, d2, d3, d4] }
  | _ => none }
def ChargeTariffsWrongFalsely : Prop := chargeTariffsRow.holds Try.pinned (OpenSpec.ofChange chargeTariffsWrong)

/-- 'coulomblaw09.ChargeDeals': WHATEVER THE INPUT: true; the input reads as it did. -/
def chargeDealsSpec : ChangeSpec := { name := "chargeDeals", fn := fun _ => fun
  | [d1, d2, d3, d4] => { results := [.lit (.bool true)], args := [d1, d2, d3, d4] }
  | _ => none }
def chargeDealsRow : OpenClaim := { program := "ytlbmeamjgdgbmaa", sum := "4efc2a000e5894484e5e7a411b2d4fc8de48506db9f8894f6af76f1018e9c5fc", func := "coulomb/coulomblaw09.ChargeDeals", spec := "chargeDeals", unfollowed := true, recurses := true, apart := false }
def ChargeDealsSaid : Prop := chargeDealsRow.holds Try.pinned (OpenSpec.ofChange chargeDealsSpec)

/-- ITS FALSE NEIGHBOUR: 'it returns false'. Refute it at one input. -/
def chargeDealsWrong : ChangeSpec := { name := "chargeDeals", fn := fun _ => fun
  | [d1, d2, d3, d4] => { results := [.lit (.bool false)], args := [d1, d2, d3, d4] }
  | _ => none }
def ChargeDealsWrongFalsely : Prop := chargeDealsRow.holds Try.pinned (OpenSpec.ofChange chargeDealsWrong)

/-- 'coulomblaw09.ChargePosts': WHATEVER THE INPUT: true; the input reads as it did. -/
def chargePostsSpec : ChangeSpec := { name := "chargePosts", fn := fun _ => fun
  | [d1, d2] => { results := [.lit (.bool true)], args := [d1, d2] }
  | _ => none }
def chargePostsRow : OpenClaim := { program := "ytlbmeamjgdgbmaa", sum := "4efc2a000e5894484e5e7a411b2d4fc8de48506db9f8894f6af76f1018e9c5fc", func := "coulomb/coulomblaw09.ChargePosts", spec := "chargePosts", apart := false }
def ChargePostsSaid : Prop := chargePostsRow.holds Try.pinned (OpenSpec.ofChange chargePostsSpec)

/-- ITS FALSE NEIGHBOUR: 'it returns false'. Refute it at one input. -/
def chargePostsWrong : ChangeSpec := { name := "chargePosts", fn := fun _ => fun
  | [d1, d2] => { results := [.lit (.bool false)], args := [d1, d2] }
  | _ => none }
def ChargePostsWrongFalsely : Prop := chargePostsRow.holds Try.pinned (OpenSpec.ofChange chargePostsWrong)

/-- 'coulomblaw09.ChargeCosts': WHATEVER THE INPUT: true; the input reads as it did. -/
def chargeCostsSpec : ChangeSpec := { name := "chargeCosts", fn := fun _ => fun
  | [d1, d2, d3, d4, d5] => { results := [.lit (.bool true)], args := [d1, d2, d3, d4, d5] }
  | _ => none }
def chargeCostsRow : OpenClaim := { program := "ytlbmeamjgdgbmaa", sum := "4efc2a000e5894484e5e7a411b2d4fc8de48506db9f8894f6af76f1018e9c5fc", func := "coulomb/coulomblaw09.ChargeCosts", spec := "chargeCosts", apart := false }
def ChargeCostsSaid : Prop := chargeCostsRow.holds Try.pinned (OpenSpec.ofChange chargeCostsSpec)

/-- ITS FALSE NEIGHBOUR: 'it returns false'. Refute it at one input. -/
def chargeCostsWrong : ChangeSpec := { name := "chargeCosts", fn := fun _ => fun
  | [d1, d2, d3, d4, d5] => { results := [.lit (.bool false)], args := [d1, d2, d3, d4, d5] }
  | _ => none }
def ChargeCostsWrongFalsely : Prop := chargeCostsRow.holds Try.pinned (OpenSpec.ofChange chargeCostsWrong)

/- THE SECOND FORM. 'bulk': how many values and letters a reading holds, each counted each time it is reached (what is shared counts as often as it is met; a slice's spare places count too). A statement '..UptoSaid' is the law's where the arguments, and the package variables that the reading takes, are together of bulk at most 1048576: NARROWER than '..Said'. Prove '..Said' where nothing that the law and all that it calls make is longer than what came in: it says more and counts as full. Else prove '..UptoSaid'. A law counts once. -/
mutual
def uptoBulk {H : Type} : DataW H → Nat
  | .lit (.string bytes) => bytes.length + 1
  | .lit _ => 1
  | .nil => 1
  | .ptr d => uptoBulk d + 1
  | .slice elems spare => uptoBulkAll elems + uptoBulkAll spare + 1
  | .agg parts => uptoBulkAll parts + 1
  | .iface _ d => uptoBulk d + 1
  | .map entries => uptoBulkEntries entries + 1
  | .held _ => 1
def uptoBulkAll {H : Type} : List (DataW H) → Nat
  | [] => 0
  | d :: r => uptoBulk d + uptoBulkAll r
def uptoBulkEntries {H : Type} : List (Lit × DataW H) → Nat
  | [] => 0
  | x :: r => uptoBulkEntry x + uptoBulkEntries r
def uptoBulkEntry {H : Type} : Lit × DataW H → Nat
  | (.string bytes, d) => bytes.length + uptoBulk d + 1
  | (_, d) => uptoBulk d + 1
 end
def uptoSmall : (H : Type) → List (DataW H) → Bool := fun _ ds => decide (uptoBulkAll ds ≤ 1048576)
def OpenSpec.upto (s : _root_.Go.ChangeSpec) : _root_.Go.OpenSpec := { _root_.Go.OpenSpec.ofChange s with cond := some uptoSmall }

/-- 'coulomblaw09.ChargeTariffs', WHERE WHAT IT READS IS OF BULK AT MOST 1048576: true; the input reads as it did. -/
def chargeTariffsUptoRow : OpenClaim := { program := "ytlbmeamjgdgbmaa", sum := "4efc2a000e5894484e5e7a411b2d4fc8de48506db9f8894f6af76f1018e9c5fc", func := "coulomb/coulomblaw09.ChargeTariffs", spec := "chargeTariffs", apart := false, narrowed := true }
def ChargeTariffsUptoSaid : Prop := chargeTariffsUptoRow.holds Try.pinned (OpenSpec.upto chargeTariffsSpec)

/-- 'coulomblaw09.ChargeDeals', WHERE WHAT IT READS IS OF BULK AT MOST 1048576: true; the input reads as it did. -/
def chargeDealsUptoRow : OpenClaim := { program := "ytlbmeamjgdgbmaa", sum := "4efc2a000e5894484e5e7a411b2d4fc8de48506db9f8894f6af76f1018e9c5fc", func := "coulomb/coulomblaw09.ChargeDeals", spec := "chargeDeals", unfollowed := true, recurses := true, apart := false, narrowed := true }
def ChargeDealsUptoSaid : Prop := chargeDealsUptoRow.holds Try.pinned (OpenSpec.upto chargeDealsSpec)

/-- 'coulomblaw09.ChargePosts', WHERE WHAT IT READS IS OF BULK AT MOST 1048576: true; the input reads as it did. -/
def chargePostsUptoRow : OpenClaim := { program := "ytlbmeamjgdgbmaa", sum := "4efc2a000e5894484e5e7a411b2d4fc8de48506db9f8894f6af76f1018e9c5fc", func := "coulomb/coulomblaw09.ChargePosts", spec := "chargePosts", apart := false, narrowed := true }
def ChargePostsUptoSaid : Prop := chargePostsUptoRow.holds Try.pinned (OpenSpec.upto chargePostsSpec)

/-- 'coulomblaw09.ChargeCosts', WHERE WHAT IT READS IS OF BULK AT MOST 1048576: true; the input reads as it did. -/
def chargeCostsUptoRow : OpenClaim := { program := "ytlbmeamjgdgbmaa", sum := "4efc2a000e5894484e5e7a411b2d4fc8de48506db9f8894f6af76f1018e9c5fc", func := "coulomb/coulomblaw09.ChargeCosts", spec := "chargeCosts", apart := false, narrowed := true }
def ChargeCostsUptoSaid : Prop := chargeCostsUptoRow.holds Try.pinned (OpenSpec.upto chargeCostsSpec)

end Rows
end Go.Proofs.Ytlbmeamjgdgbmaa
