/- The law QuantitySpans answers true for every input: for all spans and numbers each function of spans returns what the document says; no condition beyond the row's own. -/
import Derived.Test.YtlaalhbicblbeaaRows
import Derived.WalkKit
import Derived.ProofKit
import Derived.OpenShut
import Derived.Below
import Derived.ChangeOld
import Derived.Test.YtlaalhbicblbeaaSy24
import Derived.Test.YtlaalhbicblbeaaSf2
namespace Go.Proofs.Ytlaalhbicblbeaa.quantitySpans
open Go.ChangeShapes Go.WideShapes Go.ChangeAt Go.RowKit
set_option linter.unusedVariables false
set_option linter.unusedSimpArgs false

theorem own : ownKnob Try.prog.godebug = none := by kernel_rfl
theorem laidOut : laidOutB Try.prog = true := by kernel_rfl
theorem mix : Try.prog.follows .mixedOrders = true := by kernel_rfl
def ks0 : List (Option IntKind) := [some .i64, some .i64, some .i64, some .i64, some .i64, some .i64, some .i64]
def sig : List (Bool × List (Option IntKind)) := [(true, ks0)]
open Go.SX
def worksSFC : FC := ⟨21, [], .bool (.lit true), [], [], []⟩
set_option maxRecDepth 100000 in
theorem worksSFC_ok : worksSFC.OK Try.prog sfn := by
  refine FC.ok_run (X := noPar) (d := 1) (n := 100000) (t := .leaf (.bool (.lit true))) mixedS (noPar_ok sfn) rfl (by kernel_rfl) (by kernel_rfl) fun r hw _ => ⟨?_, ?_, ?_⟩
  · intro be hm; simp [worksSFC] at hm
  · intro e0 lo hi hm; simp [worksSFC] at hm
  · intro ρ ρ' V hV; exact hV
def fn : Nat → List Int → Int := Ytlaalhbicblbeaa.sfn
def X : Go.SX.Par := worksSFC.par (middleRFC.par (middleFC.par (widthRFC.par (widthFC.par (clipRFC.par (clipFC.par (growRFC.par (growFC.par (hasRFC.par (hasFC.par (checkRFC.par (checkFC.par (negRFC.par (negFC.par (squareRFC.par (squareFC.par (scaleRFC.par (scaleFC.par (insideRFC.par (insideFC.par (hullRFC.par (hullFC.par (meetRFC.par (meetFC.par (divRFC.par (divFC.par (mulRFC.par (mulFC.par (subRFC.par (subFC.par (addRFC.par (addFC.par noPar))))))))))))))))))))))))))))))))
theorem XOK : Go.SX.ParOK Try.prog fn X := FC.parOK worksSFC_ok rfl (FC.parOK middleRFC_ok rfl (FC.parOK middleFC_ok rfl (FC.parOK widthRFC_ok rfl (FC.parOK widthFC_ok rfl (FC.parOK clipRFC_ok rfl (FC.parOK clipFC_ok rfl (FC.parOK growRFC_ok rfl (FC.parOK growFC_ok rfl (FC.parOK hasRFC_ok rfl (FC.parOK hasFC_ok rfl (FC.parOK checkRFC_ok rfl (FC.parOK checkFC_ok rfl (FC.parOK negRFC_ok rfl (FC.parOK negFC_ok rfl (FC.parOK squareRFC_ok rfl (FC.parOK squareFC_ok rfl (FC.parOK scaleRFC_ok rfl (FC.parOK scaleFC_ok rfl (FC.parOK insideRFC_ok rfl (FC.parOK insideFC_ok rfl (FC.parOK hullRFC_ok rfl (FC.parOK hullFC_ok rfl (FC.parOK meetRFC_ok rfl (FC.parOK meetFC_ok rfl (FC.parOK divRFC_ok rfl (FC.parOK divFC_ok rfl (FC.parOK mulRFC_ok rfl (FC.parOK mulFC_ok rfl (FC.parOK subRFC_ok rfl (FC.parOK subFC_ok rfl (FC.parOK addRFC_ok rfl (FC.parOK addFC_ok rfl (noPar_ok sfn)))))))))))))))))))))))))))))))))
def facts : List (Go.SX.BE × Bool) := []
/-- what the call comes to -/
noncomputable def tree : Go.SX.PT := Go.SX.run (Go.SX.callT Try.prog X 100000 4 (Go.SX.symAll sig 0) (Go.SX.ctxF sig facts 5)) Go.SX.st0
theorem tree_eq : Go.SX.run (Go.SX.callT Try.prog X 100000 4 (Go.SX.symAll sig 0) (Go.SX.ctxF sig facts 5)) Go.SX.st0 = tree := rfl
attribute [irreducible] tree
set_option maxRecDepth 100000 in
/-- yes, on every way -/
theorem reckoned : Go.SX.allYes tree = true := by kernel_rfl
theorem factsOK (xs0 : List Int) (w0 : Go.SX.wfL ks0 xs0) : ∀ be v, (be, v) ∈ facts → be.den (Go.SX.envOf (List.flatten ([xs0] : List (List Int))) fn) = v := by simp [facts]
theorem walk (xs0 : List Int) (w0 : Go.SX.wfL ks0 xs0) (w : World) :
    Calls Try.prog 4 #[.agg (Go.SX.valsL ks0 xs0).toArray] w fun e w' => e = .returned (.bool true) ∧ Below w.heap.size w w' :=
  Go.SX.calls_facts (P := Try.prog) (X := X) (l := sig) (r := [xs0]) (fn := fn) (n := 100000) (f := 4) (w := w) (facts := facts) (d := 5) mix XOK (⟨xs0, _, rfl, w0, (fun h => by cases h), rfl⟩) (factsOK xs0 w0) tree_eq
    (Go.SX.allYes_holds _ reckoned)

set_option maxRecDepth 100000 in
theorem lifted (os : Os) (started : os.Started) (H : Type) (enc : TypeId × Value → H) :
    ReturnsInHanded {} Try.checked os 4 .any (Rows.quantitySpansSpec.pre6 enc Try.prog Try.f4 Rows.quantitySpansRow.domain false) (Rows.quantitySpansSpec.post enc Try.prog Try.f4 false true false false) := by
  refine returnsInHanded_of_change (C := Try.checked) own started (by kernel_rfl) Try.func4
    (ChangeSpec.witness6 (enc := enc) (C := Try.checked) false ⟨#[], #[.agg #[.int .i64 0, .int .i64 0, .int .i64 0, .int .i64 0, .int .i64 0, .int .i64 0, .int .i64 0]], []⟩ 8 (by kernel_rfl) (by kernel_rfl) (by kernel_rfl) (by kernel_rfl)) ?_
  intro W base args ds gs before hval0 hW hcnd _
  have hval : ∀ (j : Nat) t v, Try.f4.params[j]? = some t → args[j]? = some v → Value.okWide Try.prog W .any base t v := hval0
  have hW' := hW
  obtain ⟨p, q, hA0, hV, rfl, hfz, hnd⟩ := hW
  have hA : DataW.TrodAll enc Try.prog W 0 (fun _ => true) true Try.f4.params.toList args.toList ds p := hA0
  rw [Try.params4] at hA hval
  obtain ⟨v0, vs0, d0, ds0, p0, q0, hargs, rfl, rfl, h0, r0⟩ := trodAll_cons hA
  obtain ⟨rfl, rfl, rfl⟩ := trodAll_nil r0
  obtain rfl : args = #[v0] := by cases args; simp_all
  obtain ⟨rfl, rfl⟩ := trodVars_none hV
  have k0 := h0
  have lt0 : ∀ x ∈ p0, x.block < W.heap.size := by obtain ⟨m, hm⟩ := k0; exact DataW.trod_lt m _ _ _ hm
  obtain ⟨xs0, rfl, w0⟩ := Go.SX.open_flat Try.underlying32 40 (ks := ks0) (by kernel_rfl) (by kernel_rfl) (hval 0 32 v0 rfl rfl) h0
  clear hA0 hval0
  refine (walk xs0 w0 W).mono fun e W' ⟨he, bel⟩ => ?_
  subst he
  exact ⟨_, rfl, _, _, _, [], _, [], hW', trodAll_mk1 (shut_bool Try.underlying4 _), (trodAll_cons_mk (Below.trod laidOut (by kernel_rfl) (of_decide_eq_true (by kernel_rfl)) k0 bel lt0) trodAll_mk0), rfl, bel.frame _, fun h => by cases h⟩

theorem over : Rows.quantitySpansRow.holds Try.pinned (OpenSpec.ofChange Rows.quantitySpansSpec) :=
  OpenClaim.holds_of_wide 4 Try.f4 rfl rfl rfl rfl rfl rfl rfl ⟨rfl, rfl, rfl, rfl, rfl⟩ rfl rfl rfl rfl rfl (by kernel_rfl) Try.func4 (by kernel_rfl)
    (of_decide_eq_true (by kernel_rfl)) (by unfold Func.isWrapper; first | (rw [if_pos (by decide +kernel)]; kernel_rfl) | (rw [if_neg (by decide +kernel)]; exact ⟨rfl, rfl⟩))
    (fun os started H enc _ => lifted os started H enc)

/-- THE STATEMENT -/
theorem proved : Rows.QuantitySpansSaid := over
#print axioms proved
end Go.Proofs.Ytlaalhbicblbeaa.quantitySpans
