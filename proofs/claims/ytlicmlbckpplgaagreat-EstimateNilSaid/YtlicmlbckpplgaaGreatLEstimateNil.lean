/- The law EstimateNil answers true for every input; no condition beyond the row's own. The call is reckoned in a store of named blocks (the texts Sx1 to Sx15), in every order that the model may draw. -/
import Derived.Test.YtlicmlbckpplgaaGreatRows
import Derived.WalkKit
import Derived.ProofKit
import Derived.OpenShut
import Derived.Below
import Derived.ChangeOld
import Derived.Test.YtlicmlbckpplgaaGreatSx15
namespace Go.Proofs.YtlicmlbckpplgaaGreat.estimateNil
open Go.ChangeShapes Go.WideShapes Go.ChangeAt Go.RowKit
set_option linter.unusedVariables false
set_option linter.unusedSimpArgs false

theorem own : ownKnob Tryz.prog.godebug = none := by kernel_rfl
theorem laidOut : laidOutB Tryz.prog = true := by kernel_rfl
theorem mix : Tryz.prog.follows .mixedOrders = true := by kernel_rfl
def ks0 : List (Option IntKind) := [none, none, none, none, some .i64, some .i64, some .i64, some .i64]
def ks1 : List (Option IntKind) := [some .i64, some .i64, some .i64, some .i64, some .i64]
def sig : List (Bool × List (Option IntKind)) := [(true, ks0), (true, ks1)]
def book : Go.SX.Book := Go.SX.noBook
def fn : Nat → List Int → Int := fun _ _ => 0
theorem bookOK (env : Go.SX.Env) (h : env.f = fn) : Go.SX.BookOK Tryz.prog env book := Go.SX.noBook_ok _ _
/-- what the call comes to -/
noncomputable def tree : Go.SX.PT := Go.SX.run (Go.SX.callT Tryz.prog book 100000 5 (Go.SX.symAll sig 0) (Go.SX.ctxOf sig)) Go.SX.st0
theorem tree_eq : Go.SX.run (Go.SX.callT Tryz.prog book 100000 5 (Go.SX.symAll sig 0) (Go.SX.ctxOf sig)) Go.SX.st0 = tree := rfl
attribute [irreducible] tree
set_option maxRecDepth 100000 in
theorem reckoned : Go.SX.allYes tree = true := by kernel_rfl
theorem main (xs0 : List Int) (xs1 : List Int) (w0 : Go.SX.wfL ks0 xs0) (w1 : Go.SX.wfL ks1 xs1) : tree.holds (Go.SX.envOf (List.flatten ([xs0, xs1] : List (List Int))) fn) fun v _ => Go.SX.yes (Go.SX.envOf (List.flatten ([xs0, xs1] : List (List Int))) fn) v := Go.SX.allYes_holds _ reckoned
theorem walk (xs0 : List Int) (xs1 : List Int) (w0 : Go.SX.wfL ks0 xs0) (w1 : Go.SX.wfL ks1 xs1) (w : World) :
    Calls Tryz.prog 5 #[.agg (Go.SX.valsL ks0 xs0).toArray, .agg (Go.SX.valsL ks1 xs1).toArray] w fun e w' => e = .returned (.bool true) ∧ Below w.heap.size w w' :=
  Go.SX.calls_flat (P := Tryz.prog) (Bk := book) (l := sig) (r := [xs0, xs1]) (fn := fn) (n := 100000) (f := 5) (w := w) (t := tree) mix (bookOK _ rfl) (⟨xs0, _, rfl, w0, (fun h => by cases h), ⟨xs1, _, rfl, w1, (fun h => by cases h), rfl⟩⟩) tree_eq (main xs0 xs1 w0 w1)

set_option maxRecDepth 100000 in
theorem lifted (os : Os) (started : os.Started) (H : Type) (enc : TypeId × Value → H) :
    ReturnsInHanded {} Tryz.checked os 5 .any (Rows.estimateNilSpec.pre6 enc Tryz.prog Tryz.f5 Rows.estimateNilRow.domain false) (Rows.estimateNilSpec.post enc Tryz.prog Tryz.f5 false true false false) := by
  refine returnsInHanded_of_change (C := Tryz.checked) own started (by kernel_rfl) Tryz.func5
    (ChangeSpec.witness6 (enc := enc) (C := Tryz.checked) false ⟨#[], #[.agg #[.bool false, .bool false, .bool false, .bool false, .int .i64 0, .int .i64 0, .int .i64 0, .int .i64 0], .agg #[.int .i64 0, .int .i64 0, .int .i64 0, .int .i64 0, .int .i64 0]], []⟩ 8 (by kernel_rfl) (by kernel_rfl) (by kernel_rfl) (by kernel_rfl)) ?_
  intro W base args ds gs before hval0 hW hcnd _
  have hval : ∀ (j : Nat) t v, Tryz.f5.params[j]? = some t → args[j]? = some v → Value.okWide Tryz.prog W .any base t v := hval0
  have hW' := hW
  obtain ⟨p, q, hA0, hV, rfl, hfz, hnd⟩ := hW
  have hA : DataW.TrodAll enc Tryz.prog W 0 (fun _ => true) true Tryz.f5.params.toList args.toList ds p := hA0
  rw [Tryz.params5] at hA hval
  obtain ⟨v0, vs0, d0, ds0, p0, q0, hargs, rfl, rfl, h0, r0⟩ := trodAll_cons hA
  obtain ⟨v1, vs1, d1, ds1, p1, q1, rfl, rfl, rfl, h1, r1⟩ := trodAll_cons r0
  obtain ⟨rfl, rfl, rfl⟩ := trodAll_nil r1
  obtain rfl : args = #[v0, v1] := by cases args; simp_all
  obtain ⟨rfl, rfl⟩ := trodVars_none hV
  have k0 := h0
  have lt0 : ∀ x ∈ p0, x.block < W.heap.size := by obtain ⟨m, hm⟩ := k0; exact DataW.trod_lt m _ _ _ hm
  obtain ⟨xs0, rfl, w0⟩ := Go.SX.open_flat Tryz.underlying51 40 (ks := ks0) (by kernel_rfl) (by kernel_rfl) (hval 0 51 v0 rfl rfl) h0
  have k1 := h1
  have lt1 : ∀ x ∈ p1, x.block < W.heap.size := by obtain ⟨m, hm⟩ := k1; exact DataW.trod_lt m _ _ _ hm
  obtain ⟨xs1, rfl, w1⟩ := Go.SX.open_flat Tryz.underlying53 40 (ks := ks1) (by kernel_rfl) (by kernel_rfl) (hval 1 53 v1 rfl rfl) h1
  clear hA0 hval0
  refine (walk xs0 xs1 w0 w1 W).mono fun e W' ⟨he, bel⟩ => ?_
  subst he
  exact ⟨_, rfl, _, _, _, [], _, [], hW', trodAll_mk1 (shut_bool Tryz.underlying4 _), (trodAll_cons_mk (Below.trod laidOut (by kernel_rfl) (of_decide_eq_true (by kernel_rfl)) k0 bel lt0) (trodAll_cons_mk (Below.trod laidOut (by kernel_rfl) (of_decide_eq_true (by kernel_rfl)) k1 bel lt1) trodAll_mk0)), rfl, bel.frame _, fun h => by cases h⟩

theorem over : Rows.estimateNilRow.holds Tryz.pinned (OpenSpec.ofChange Rows.estimateNilSpec) :=
  OpenClaim.holds_of_wide 5 Tryz.f5 rfl rfl rfl rfl rfl rfl rfl ⟨rfl, rfl, rfl, rfl, rfl⟩ rfl rfl rfl rfl rfl (by kernel_rfl) Tryz.func5 (by kernel_rfl)
    (of_decide_eq_true (by kernel_rfl)) (by unfold Func.isWrapper; first | (rw [if_pos (by decide +kernel)]; kernel_rfl) | (rw [if_neg (by decide +kernel)]; exact ⟨rfl, rfl⟩))
    (fun os started H enc _ => lifted os started H enc)

/-- THE STATEMENT -/
theorem proved : Rows.EstimateNilSaid := over
#print axioms proved
end Go.Proofs.YtlicmlbckpplgaaGreat.estimateNil
