/- The law CellVectors answers true for every input: the vector of a state has its numbers, and the state is found from it; no condition beyond the row's own. The call is reckoned in a store of named blocks (the texts Sz1 to Sz27), in every order that the model may draw. -/
import Derived.Test.YthldmdffaeimeaaRows
import Derived.WalkKit
import Derived.ProofKit
import Derived.OpenShut
import Derived.Below
import Derived.ChangeOld
import Derived.Test.YthldmdffaeimeaaSz27
namespace Go.Proofs.Ythldmdffaeimeaa.cellVectors
open Go.ChangeShapes Go.WideShapes Go.ChangeAt Go.RowKit
set_option linter.unusedVariables false
set_option linter.unusedSimpArgs false

theorem own : ownKnob Try.prog.godebug = none := by kernel_rfl
theorem laidOut : laidOutB Try.prog = true := by kernel_rfl
theorem mix : Try.prog.follows .mixedOrders = true := by kernel_rfl
def ks0 : List (Option IntKind) := [some .i64, some .i64, some .i64, some .i64, some .i64]
def ks1 : List (Option IntKind) := [some .i64]
def sh : List Go.SX.PSh := [.flat true ks0, .row ks1]
open Go.SX
theorem joinPar_ok (fn : Nat → List Int → Int) : ParOK Try.prog fn joinPar := ⟨fun env _ => noBook_ok _ _, fun env _ f i g h => by cases h⟩
def knownFC : FC := ⟨5, [], .bool (.lit true), [], [], []⟩
set_option maxRecDepth 100000 in
theorem known_vt : (run (callT Try.prog joinPar 100000 5 (symAll [] 0) (ctxF [] [] 1)) st0).vt = .leaf (.bool (.lit true)) := by kernel_rfl
theorem knownFC_ok (fn : Nat → List Int → Int) : knownFC.OK Try.prog fn := by
  refine FC.ok_eqv (X := joinPar) (d := 1) (n := 100000) (t := .leaf (.bool (.lit true))) mix (joinPar_ok fn) rfl (by kernel_rfl) known_vt fun r hw _ => ⟨by simp [knownFC], by simp [knownFC], ?_⟩
  exact rfl
noncomputable def fn0 : Nat → List Int → Int := fun _ _ => 0
def X : Go.SX.Par := knownFC.par joinPar
theorem XOK : ∀ fn, (∀ k a, k < 5000 → fn k a = fn0 k a) → Go.SX.ParOK Try.prog fn X := fun fn _ => FC.parOK (knownFC_ok fn) rfl (joinPar_ok fn)
def vt : Go.SX.VT := .leaf (.bool (.lit true))
set_option maxRecDepth 100000 in
theorem tree_vt : (Go.SX.run (Go.SX.callT Try.prog X 100000 3 (Go.SX.shArgs sh 0 0) (Go.SX.shCtx sh [] 5)) (Go.SX.shSt sh)).vt = vt := by kernel_rfl
open Go.SX in
theorem main (pv : List Go.SX.PV) (w : World) (hw : Go.SX.pvAll w sh pv) : vt.holds (Go.SX.envOf (Go.SX.pvNums pv) (Go.SX.withRows fn0 sh pv)) fun v => Go.SX.yes (Go.SX.envOf (Go.SX.pvNums pv) (Go.SX.withRows fn0 sh pv)) v := VT.allYes_holds rfl
theorem walkAll (pv : List Go.SX.PV) (w : World) (hw : Go.SX.pvAll w sh pv) : Calls Try.prog 3 (Go.SX.pvVals sh pv).toArray w fun e w' => e = .returned (.bool true) ∧ Below w.heap.size w w' :=
  Go.SX.calls_rows (fn := Go.SX.withRows fn0 sh pv) mix (XOK _ fun k a h => Go.SX.withRows_low h) hw (Go.SX.withRows_rows (by rfl)) (by simp) tree_vt (main pv w hw)
theorem walk (w : World) (xs0 : List Int) (v1 : Value) (D1 : Go.SX.RowD) (w0 : Go.SX.wfL ks0 xs0) (l1 : (D1.len : Int) ≤ 9223372036854775807) (w1 : ∃ r o, Go.SX.RowIs w ks1 D1 v1 r o) :
    Calls Try.prog 3 #[.agg (Go.SX.valsL ks0 xs0).toArray, v1] w fun e w' => e = .returned (.bool true) ∧ Below w.heap.size w w' :=
  walkAll [.flat xs0, .row D1 v1] w ⟨_, _, rfl, ⟨w0, (fun h => by cases h)⟩, ⟨_, _, rfl, ⟨l1, w1⟩, rfl⟩⟩

set_option maxRecDepth 100000 in
theorem lifted (os : Os) (started : os.Started) (H : Type) (enc : TypeId × Value → H) :
    ReturnsInHanded {} Try.checked os 3 .any (Rows.cellVectorsSpec.pre6 enc Try.prog Try.f3 Rows.cellVectorsRow.domain false) (Rows.cellVectorsSpec.post enc Try.prog Try.f3 false true false false) := by
  refine returnsInHanded_of_change (C := Try.checked) own started (by kernel_rfl) Try.func3
    (ChangeSpec.witness6 (enc := enc) (C := Try.checked) false ⟨#[], #[.agg #[.int .i64 0, .int .i64 0, .int .i64 0, .int .i64 0, .int .i64 0], .slice none 0 0], []⟩ 8 (by kernel_rfl) (by kernel_rfl) (by kernel_rfl) (by kernel_rfl)) ?_
  intro W base args ds gs before hval0 hW hcnd _
  have hval : ∀ (j : Nat) t v, Try.f3.params[j]? = some t → args[j]? = some v → Value.okWide Try.prog W .any base t v := hval0
  have hW' := hW
  obtain ⟨p, q, hA0, hV, rfl, hfz, hnd⟩ := hW
  have hA : DataW.TrodAll enc Try.prog W 0 (fun _ => true) true Try.f3.params.toList args.toList ds p := hA0
  rw [Try.params3] at hA hval
  obtain ⟨v0, vs0, d0, ds0, p0, q0, hargs, rfl, rfl, h0, r0⟩ := trodAll_cons hA
  obtain ⟨v1, vs1, d1, ds1, p1, q1, rfl, rfl, rfl, h1, r1⟩ := trodAll_cons r0
  obtain ⟨rfl, rfl, rfl⟩ := trodAll_nil r1
  obtain rfl : args = #[v0, v1] := by cases args; simp_all
  obtain ⟨rfl, rfl⟩ := trodVars_none hV
  have k0 := h0
  have lt0 : ∀ x ∈ p0, x.block < W.heap.size := by obtain ⟨m, hm⟩ := k0; exact DataW.trod_lt m _ _ _ hm
  obtain ⟨xs0, rfl, w0⟩ := Go.SX.open_flat Try.underlying23 40 (ks := ks0) (by kernel_rfl) (by kernel_rfl) (hval 0 23 v0 rfl rfl) h0
  have k1 := h1
  have lt1 : ∀ x ∈ p1, x.block < W.heap.size := by obtain ⟨m, hm⟩ := k1; exact DataW.trod_lt m _ _ _ hm
  obtain ⟨D1, l1, w1⟩ := Go.SX.open_row Try.underlying24 40 (ks := ks1) (by kernel_rfl) (by kernel_rfl) (by decide) (hval 1 24 v1 rfl rfl) h1
  clear hA0 hval0
  refine (walk W xs0 v1 D1 w0 l1 w1).mono fun e W' ⟨he, bel⟩ => ?_
  subst he
  exact ⟨_, rfl, _, _, _, [], _, [], hW', trodAll_mk1 (shut_bool Try.underlying4 _), (trodAll_cons_mk (Below.trod laidOut (by kernel_rfl) (of_decide_eq_true (by kernel_rfl)) k0 bel lt0) (trodAll_cons_mk (Below.trod laidOut (by kernel_rfl) (of_decide_eq_true (by kernel_rfl)) k1 bel lt1) trodAll_mk0)), rfl, bel.frame _, fun h => by cases h⟩

theorem over : Rows.cellVectorsRow.holds Try.pinned (OpenSpec.ofChange Rows.cellVectorsSpec) :=
  OpenClaim.holds_of_wide 3 Try.f3 rfl rfl rfl rfl rfl rfl rfl ⟨rfl, rfl, rfl, rfl, rfl⟩ rfl rfl rfl rfl rfl (by kernel_rfl) Try.func3 (by kernel_rfl)
    (of_decide_eq_true (by kernel_rfl)) (by unfold Func.isWrapper; first | (rw [if_pos (by decide +kernel)]; kernel_rfl) | (rw [if_neg (by decide +kernel)]; exact ⟨rfl, rfl⟩))
    (fun os started H enc _ => lifted os started H enc)

/-- THE STATEMENT -/
theorem proved : Rows.CellVectorsSaid := over
#print axioms proved
end Go.Proofs.Ythldmdffaeimeaa.cellVectors
