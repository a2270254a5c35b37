/- The law PackKnown answers true: the examples that the document gives come out as it says; no condition. The call is reckoned in a store of named blocks (the texts Sw1 to Sw28), in every order that the model may draw. -/
import Derived.Test.YtfkkimpcemlmcaaRows
import Derived.WalkKit
import Derived.ProofKit
import Derived.OpenShut
import Derived.Below
import Derived.ChangeOld
import Derived.Test.YtfkkimpcemlmcaaSw44
import Derived.Test.YtfkkimpcemlmcaaKa
import Derived.Test.YtfkkimpcemlmcaaKb
import Derived.Test.YtfkkimpcemlmcaaKc
import Derived.Test.YtfkkimpcemlmcaaKn
namespace Go.Proofs.Ytfkkimpcemlmcaa.packKnown
open Go.ChangeShapes Go.WideShapes Go.ChangeAt Go.RowKit
set_option linter.unusedVariables false
set_option linter.unusedSimpArgs false

theorem own : ownKnob Try.prog.godebug = none := by kernel_rfl
theorem laidOut : laidOutB Try.prog = true := by kernel_rfl
theorem mix : Try.prog.follows .mixedOrders = true := by kernel_rfl
def sh : List Go.SX.PSh := []
noncomputable def fn0 : Nat → List Int → Int := Go.SX.rowed (fun k _ => if k = 21 then 6 else if k = 22 then 1 else 0)
open Go.SX in
def XX : Go.SX.Par := packs.cC.par (packs.cB.par (packs.cA.par (packs.XN packs.ctN)))
def X : Go.SX.Par := XX
theorem XOK : ∀ fn, (∀ k a, k < 5000 → fn k a = fn0 k a) → Go.SX.ParOK Try.prog fn X := fun fn h => by
  have hr : Go.SX.RowFn fn := fun k a h1 h2 => by rw [h k a h2]; exact Go.SX.rowed_rows _ k a h1 h2
  exact Go.SX.CC.parOK (packs.cC_ok hr) packs.cC_fits (Go.SX.CC.parOK (packs.cB_ok hr) packs.cB_fits (Go.SX.CC.parOK (packs.cA_ok hr) packs.cA_fits (packs.XN_ok hr (fun a => by rw [h 20 a (by decide)]; rfl) (fun a => by rw [h 21 a (by decide)]; rfl) (fun a => by rw [h 22 a (by decide)]; rfl))))
def vt : Go.SX.VT := (.leaf (.bool (.lit true)))
set_option maxRecDepth 100000 in
theorem tree_vt : (Go.SX.run (Go.SX.callT Try.prog X 300000 4 (Go.SX.shArgs sh 0 0) (Go.SX.shCtx sh [] 0)) (Go.SX.shSt sh)).vt = vt := by kernel_rfl
open Go.SX in
theorem main (pv : List Go.SX.PV) (w : World) (hw : Go.SX.pvAll w sh pv) : vt.holds (Go.SX.envOf (Go.SX.pvNums pv) (Go.SX.withRows fn0 sh pv)) fun v => Go.SX.yes (Go.SX.envOf (Go.SX.pvNums pv) (Go.SX.withRows fn0 sh pv)) v := Go.SX.VT.allYes_holds rfl
theorem walkAll (pv : List Go.SX.PV) (w : World) (hw : Go.SX.pvAll w sh pv) : Calls Try.prog 4 (Go.SX.pvVals sh pv).toArray w fun e w' => e = .returned (.bool true) ∧ Below w.heap.size w w' :=
  Go.SX.calls_rows (fn := Go.SX.withRows fn0 sh pv) mix (XOK _ fun k a h => Go.SX.withRows_low h) hw (Go.SX.withRows_rows (by rfl)) (by simp) tree_vt (main pv w hw)
theorem walk (w : World)   :
    Calls Try.prog 4 #[] w fun e w' => e = .returned (.bool true) ∧ Below w.heap.size w w' :=
  walkAll [] w rfl

set_option maxRecDepth 100000 in
theorem lifted (os : Os) (started : os.Started) (H : Type) (enc : TypeId × Value → H) :
    ReturnsInHanded {} Try.checked os 4 .any (Rows.packKnownSpec.pre6 enc Try.prog Try.f4 Rows.packKnownRow.domain false) (Rows.packKnownSpec.post enc Try.prog Try.f4 false true false false) := by
  refine returnsInHanded_of_change (C := Try.checked) own started (by kernel_rfl) Try.func4
    (ChangeSpec.witness6 (enc := enc) (C := Try.checked) false ⟨#[], #[], []⟩ 8 (by kernel_rfl) (by kernel_rfl) (by kernel_rfl) (by kernel_rfl)) ?_
  intro W base args ds gs before hval0 hW hcnd _
  have hval : ∀ (j : Nat) t v, Try.f4.params[j]? = some t → args[j]? = some v → Value.okWide Try.prog W .any base t v := hval0
  have hW' := hW
  obtain ⟨p, q, hA0, hV, rfl, hfz, hnd⟩ := hW
  have hA : DataW.TrodAll enc Try.prog W 0 (fun _ => true) true Try.f4.params.toList args.toList ds p := hA0
  rw [Try.params4] at hA hval
  obtain ⟨rfl, rfl, rfl⟩ := trodAll_none hA
  obtain ⟨rfl, rfl⟩ := trodVars_none hV
  clear hA0 hval0
  refine (walk W  ).mono fun e W' ⟨he, bel⟩ => ?_
  subst he
  exact ⟨_, rfl, _, _, _, [], _, [], hW', trodAll_mk1 (shut_bool Try.underlying4 _), rfl, rfl, bel.frame _, fun h => by cases h⟩

theorem over : Rows.packKnownRow.holds Try.pinned (OpenSpec.ofChange Rows.packKnownSpec) :=
  OpenClaim.holds_of_wide 4 Try.f4 rfl rfl rfl rfl rfl rfl rfl ⟨rfl, rfl, rfl, rfl, rfl⟩ rfl rfl rfl rfl rfl (by kernel_rfl) Try.func4 (by kernel_rfl)
    (of_decide_eq_true (by kernel_rfl)) (by unfold Func.isWrapper; first | (rw [if_pos (by decide +kernel)]; kernel_rfl) | (rw [if_neg (by decide +kernel)]; exact ⟨rfl, rfl⟩))
    (fun os started H enc _ => lifted os started H enc)

/-- THE STATEMENT -/
theorem proved : Rows.PackKnownSaid := over
#print axioms proved
end Go.Proofs.Ytfkkimpcemlmcaa.packKnown
