/- The law CellKnown answers true for every input; no condition beyond the row's own. The call is reckoned in a store of named blocks (the texts Sx1 to Sx15), in every order that the model may draw. -/
import Derived.Test.YtlhejjgboljdkaaGreatRows
import Derived.WalkKit
import Derived.ProofKit
import Derived.OpenShut
import Derived.Below
import Derived.ChangeOld
import Derived.Test.YtlhejjgboljdkaaGreatSx15
import Derived.Test.YtlhejjgboljdkaaGreatMKnown
namespace Go.Proofs.YtlhejjgboljdkaaGreat.cellKnown
open Go.ChangeShapes Go.WideShapes Go.ChangeAt Go.RowKit
set_option linter.unusedVariables false
set_option linter.unusedSimpArgs false

theorem own : ownKnob Tryz.prog.godebug = none := by kernel_rfl
theorem laidOut : laidOutB Tryz.prog = true := by kernel_rfl
theorem mix : Tryz.prog.follows .mixedOrders = true := by kernel_rfl
def sig : List (Bool × List (Option IntKind)) := []
def book : Go.SX.Book := bk
def fn : Nat → List Int → Int := fun _ _ => 0
theorem bookOK (env : Go.SX.Env) (h : env.f = fn) : Go.SX.BookOK Tryz.prog env book := bk_ok env
/-- what the call comes to -/
noncomputable def tree : Go.SX.PT := Go.SX.run (Go.SX.callT Tryz.prog book 100000 8 (Go.SX.symAll sig 0) (Go.SX.ctxOf sig)) Go.SX.st0
theorem tree_eq : Go.SX.run (Go.SX.callT Tryz.prog book 100000 8 (Go.SX.symAll sig 0) (Go.SX.ctxOf sig)) Go.SX.st0 = tree := rfl
attribute [irreducible] tree
set_option maxRecDepth 100000 in
theorem reckoned : Go.SX.allYes tree = true := by kernel_rfl
theorem main  : tree.holds (Go.SX.envOf (List.flatten ([] : List (List Int))) fn) fun v _ => Go.SX.yes (Go.SX.envOf (List.flatten ([] : List (List Int))) fn) v := Go.SX.allYes_holds _ reckoned
theorem walk   (w : World) :
    Calls Tryz.prog 8 #[] w fun e w' => e = .returned (.bool true) ∧ Below w.heap.size w w' :=
  Go.SX.calls_flat (P := Tryz.prog) (Bk := book) (l := sig) (r := []) (fn := fn) (n := 100000) (f := 8) (w := w) (t := tree) mix (bookOK _ rfl) (rfl) tree_eq (main  )

set_option maxRecDepth 100000 in
theorem lifted (os : Os) (started : os.Started) (H : Type) (enc : TypeId × Value → H) :
    ReturnsInHanded {} Tryz.checked os 8 .any (Rows.cellKnownSpec.pre6 enc Tryz.prog Tryz.f8 Rows.cellKnownRow.domain false) (Rows.cellKnownSpec.post enc Tryz.prog Tryz.f8 false true false false) := by
  refine returnsInHanded_of_change (C := Tryz.checked) own started (by kernel_rfl) Tryz.func8
    (ChangeSpec.witness6 (enc := enc) (C := Tryz.checked) false ⟨#[], #[], []⟩ 8 (by kernel_rfl) (by kernel_rfl) (by kernel_rfl) (by kernel_rfl)) ?_
  intro W base args ds gs before hval0 hW hcnd _
  have hval : ∀ (j : Nat) t v, Tryz.f8.params[j]? = some t → args[j]? = some v → Value.okWide Tryz.prog W .any base t v := hval0
  have hW' := hW
  obtain ⟨p, q, hA0, hV, rfl, hfz, hnd⟩ := hW
  have hA : DataW.TrodAll enc Tryz.prog W 0 (fun _ => true) true Tryz.f8.params.toList args.toList ds p := hA0
  rw [Tryz.params8] at hA hval
  obtain ⟨rfl, rfl, rfl⟩ := trodAll_none hA
  obtain ⟨rfl, rfl⟩ := trodVars_none hV
  clear hA0 hval0
  refine (walk   W).mono fun e W' ⟨he, bel⟩ => ?_
  subst he
  exact ⟨_, rfl, _, _, _, [], _, [], hW', trodAll_mk1 (shut_bool Tryz.underlying4 _), rfl, rfl, bel.frame _, fun h => by cases h⟩

theorem over : Rows.cellKnownRow.holds Tryz.pinned (OpenSpec.ofChange Rows.cellKnownSpec) :=
  OpenClaim.holds_of_wide 8 Tryz.f8 rfl rfl rfl rfl rfl rfl rfl ⟨rfl, rfl, rfl, rfl, rfl⟩ rfl rfl rfl rfl rfl (by kernel_rfl) Tryz.func8 (by kernel_rfl)
    (of_decide_eq_true (by kernel_rfl)) (by unfold Func.isWrapper; first | (rw [if_pos (by decide +kernel)]; kernel_rfl) | (rw [if_neg (by decide +kernel)]; exact ⟨rfl, rfl⟩))
    (fun os started H enc _ => lifted os started H enc)

/-- THE STATEMENT -/
theorem proved : Rows.CellKnownSaid := over
#print axioms proved
end Go.Proofs.YtlhejjgboljdkaaGreat.cellKnown
