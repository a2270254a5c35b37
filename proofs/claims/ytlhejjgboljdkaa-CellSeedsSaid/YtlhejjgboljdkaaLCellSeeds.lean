/- The law CellSeeds answers true for every input; no condition beyond the row's own. The call is reckoned in a store of named blocks (the texts Sx1 to Sx13), in every order that the model may draw. -/
import Derived.Test.YtlhejjgboljdkaaRows
import Derived.WalkKit
import Derived.ProofKit
import Derived.OpenShut
import Derived.Below
import Derived.ChangeOld
import Derived.Test.YtlhejjgboljdkaaSx14
import Derived.Test.YtlhejjgboljdkaaSxSeeds
namespace Go.Proofs.Ytlhejjgboljdkaa.cellSeeds
open Go.ChangeShapes Go.WideShapes Go.ChangeAt Go.RowKit
set_option linter.unusedVariables false      -- a walk need not use every 'w<i>' (that an integer argument fits its kind)

theorem own : ownKnob Try.prog.godebug = none := by kernel_rfl

theorem mix : Try.prog.follows .mixedOrders = true := by kernel_rfl
/-- what the call comes to -/
noncomputable def tree : Go.SX.PT := Go.SX.run (Go.SX.callT Try.prog Go.SX.noBook 100000 7 [.int .u64 (.var 0), .int .u64 (.var 1)] Go.SX.Ctx.none) Go.SX.st0
theorem tree_eq : Go.SX.run (Go.SX.callT Try.prog Go.SX.noBook 100000 7 [.int .u64 (.var 0), .int .u64 (.var 1)] Go.SX.Ctx.none) Go.SX.st0 = tree := rfl
attribute [irreducible] tree
set_option maxRecDepth 100000 in
theorem reckoned : Go.SX.yesUnder (Go.SX.facts (.var 0) (.var 1)) tree = true := by kernel_rfl
theorem nat_of (a : Int) (h : (Lit.int .u64 a).wf = true) : a = (a.toNat : Int) := by
  have h1 : IntKind.u64.min ≤ a := by
    simp only [Lit.wf, Bool.and_eq_true, decide_eq_true_eq] at h
    exact h.1
  have h2 : IntKind.u64.min = 0 := by decide
  omega
theorem main (a0 a1 : Int) (w0 : (Lit.int .u64 a0).wf = true) (w1 : (Lit.int .u64 a1).wf = true) (f : Nat → List Int → Int) :
    tree.holds ⟨fun i => [a0, a1].getD i 0, f⟩ fun v _ => Go.SX.yes ⟨fun i => [a0, a1].getD i 0, f⟩ v :=
  @Go.SX.yesUnder_holds ⟨fun i => [a0, a1].getD i 0, f⟩ (Go.SX.facts (.var 0) (.var 1)) (@Go.SX.facts_hold ⟨fun i => [a0, a1].getD i 0, f⟩ (.var 0) (.var 1) a0.toNat a1.toNat (nat_of a0 w0) (nat_of a1 w1)) tree reckoned
theorem walk (a0 : Int) (a1 : Int) (w0 : (Lit.int .u64 a0).wf = true) (w1 : (Lit.int .u64 a1).wf = true) (w : World) :
    Calls Try.prog 7 #[.int .u64 a0, .int .u64 a1] w fun e w' => e = .returned (.bool true) ∧ Below w.heap.size w w' :=
  @Go.SX.calls_yes0 Try.prog Go.SX.noBook ⟨fun i => [a0, a1].getD i 0, fun _ _ => 0⟩ mix (Go.SX.noBook_ok _ _) 100000 7 [.int .u64 (.var 0), .int .u64 (.var 1)] [.int .u64 a0, .int .u64 a1] Go.SX.Ctx.none w tree (Go.SX.Ctx.ok_none _) (⟨_, _, rfl, ⟨_, _, rfl, rfl, rfl⟩, rfl⟩) tree_eq (main a0 a1 w0 w1 _)

/-! ### THE ROW's STEP: WRITTEN OUT: LEAVE IT -/
set_option maxRecDepth 100000 in
theorem lifted (os : Os) (started : os.Started) (H : Type) (enc : TypeId × Value → H) :
    ReturnsInHanded {} Try.checked os 7 .any (Rows.cellSeedsSpec.pre6 enc Try.prog Try.f7 Rows.cellSeedsRow.domain false) (Rows.cellSeedsSpec.post enc Try.prog Try.f7 false true false false) := by
  refine returnsInHanded_of_change (C := Try.checked) own started (by kernel_rfl) Try.func7
    (ChangeSpec.witness6 (enc := enc) (C := Try.checked) false ⟨#[], #[.int .u64 0, .int .u64 0], []⟩ 8 (by kernel_rfl) (by kernel_rfl) (by kernel_rfl) (by kernel_rfl)) ?_
  intro W base args ds gs before hval0 hW hcnd _
  have hval : ∀ (j : Nat) t v, Try.f7.params[j]? = some t → args[j]? = some v → Value.okWide Try.prog W .any base t v := hval0
  have hW' := hW
  obtain ⟨p, q, hA0, hV, rfl, hfz, hnd⟩ := hW
  have hA : DataW.TrodAll enc Try.prog W 0 (fun _ => true) true Try.f7.params.toList args.toList ds p := hA0
  rw [Try.params7] at hA hval
  obtain ⟨v0, vs0, d0, ds0, p0, q0, hargs, rfl, rfl, h0, r0⟩ := trodAll_cons hA
  obtain ⟨v1, vs1, d1, ds1, p1, q1, rfl, rfl, rfl, h1, r1⟩ := trodAll_cons r0
  obtain ⟨rfl, rfl, rfl⟩ := trodAll_nil r1
  obtain rfl : args = #[v0, v1] := by cases args; simp_all
  obtain ⟨rfl, rfl⟩ := trodVars_none hV
  obtain ⟨a0, rfl, rfl, rfl, w0⟩ := open_int Try.underlying53 (hval 0 53 v0 rfl rfl) h0
  obtain ⟨a1, rfl, rfl, rfl, w1⟩ := open_int Try.underlying53 (hval 1 53 v1 rfl rfl) h1
  clear hA0 hval0
  simp only [List.append_nil] at hW'
  refine (walk a0 a1 w0 w1 W).mono fun e W' ⟨he, hg⟩ => ?_
  subst he
  exact ⟨_, rfl, _, _, _, [], _, [], hW', trodAll_mk1 (shut_bool Try.underlying4 _), (trodAll_cons_mk (shut_int Try.underlying53 w0) (trodAll_cons_mk (shut_int Try.underlying53 w1) trodAll_mk0)), rfl, hg.frame _, fun h => by cases h⟩

theorem over : Rows.cellSeedsRow.holds Try.pinned (OpenSpec.ofChange Rows.cellSeedsSpec) :=
  OpenClaim.holds_of_wide 7 Try.f7 rfl rfl rfl rfl rfl rfl rfl ⟨rfl, rfl, rfl, rfl, rfl⟩ rfl rfl rfl rfl rfl (by kernel_rfl) Try.func7 (by kernel_rfl)
    (of_decide_eq_true (by kernel_rfl)) (by unfold Func.isWrapper; first | (rw [if_pos (by decide +kernel)]; kernel_rfl) | (rw [if_neg (by decide +kernel)]; exact ⟨rfl, rfl⟩))
    (fun os started H enc _ => lifted os started H enc)

/-- ████ THE STATEMENT ████ -/
theorem proved : Rows.CellSeedsSaid :=
  over
#print axioms proved
end Go.Proofs.Ytlhejjgboljdkaa.cellSeeds
