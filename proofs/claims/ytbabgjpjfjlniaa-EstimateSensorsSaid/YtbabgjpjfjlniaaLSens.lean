/- The law EstimateSensors answers true for every input: for all sensors, numbers, noises and readings CheckSensor, Show and Behind return what the document says; no condition beyond the row's own. -/
import Derived.Test.YtbabgjpjfjlniaaRows
import Derived.WalkKit
import Derived.ProofKit
import Derived.OpenShut
import Derived.Below
import Derived.ChangeOld
import Derived.Test.YtbabgjpjfjlniaaSy24
import Derived.Test.YtbabgjpjfjlniaaSy25
import Derived.Test.YtbabgjpjfjlniaaSe7
namespace Go.Proofs.Ytbabgjpjfjlniaa.estimateSensors
open Go.ChangeShapes Go.WideShapes Go.ChangeAt Go.RowKit
set_option linter.unusedVariables false
set_option linter.unusedSimpArgs false

theorem own : ownKnob Try.prog.godebug = none := by kernel_rfl
theorem laidOut : laidOutB Try.prog = true := by kernel_rfl
theorem mix : Try.prog.follows .mixedOrders = true := by kernel_rfl
def ks0 : List (Option IntKind) := [some .i64, some .i64, some .i64, some .i64]
def ks1 : List (Option IntKind) := [some .i64]
def ks2 : List (Option IntKind) := [some .i64]
def ks3 : List (Option IntKind) := [some .i64]
def sig : List (Bool × List (Option IntKind)) := [(true, ks0), (false, ks1), (false, ks2), (false, ks3)]
open Go.SX
def worksFC : FC := ⟨13, [], .bool (.lit true), [], [], []⟩
set_option maxRecDepth 100000 in
theorem worksFC_ok : worksFC.OK Try.prog sfn := by
  refine FC.ok_eqv (X := par2) (d := 5) (n := 1000) (t := .leaf (.bool (.and (.cmp .eql (.app 4 [(.lit 3), (.lit 10), (.lit 0), (.lit 100), (.lit 42), (.lit 3)]) (.lit 0)) (.and (.cmp .eql (.app 7 [(.lit 3), (.lit 10), (.lit 0), (.lit 100), (.lit 40)]) (.lit 0)) (.and (.cmp .eql (.app 3 [(.lit 3), (.lit 10), (.lit 0), (.lit 100), (.lit 42), (.lit 3)]) (.lit 50)) (.and (.cmp .eql (.app 5 [(.lit 3), (.lit 10), (.lit 0), (.lit 100), (.lit 40)]) (.lit 32)) (.cmp .eql (.app 6 [(.lit 3), (.lit 10), (.lit 0), (.lit 100), (.lit 40)]) (.lit 47)))))))) mixed par2_ok rfl (by kernel_rfl) (by kernel_rfl) fun r hw _ => ⟨by simp [worksFC], by simp [worksFC], ?_⟩
  simp only [worksFC, VT.holds, SV.eqv, BE.den, E.den, denL, env_f, sfn3, sfn4, sfn5, sfn6, sfn7]
  decide +kernel
def fn : Nat → List Int → Int := Ytbabgjpjfjlniaa.sfn
def X : Go.SX.Par := worksFC.par par2
theorem XOK : Go.SX.ParOK Try.prog fn X := FC.parOK worksFC_ok rfl par2_ok
def facts : List (Go.SX.BE × Bool) := []
/-- what the call comes to -/
noncomputable def tree : Go.SX.PT := Go.SX.run (Go.SX.callT Try.prog X 1000 3 (Go.SX.symAll sig 0) (Go.SX.ctxF sig facts 5)) Go.SX.st0
theorem tree_eq : Go.SX.run (Go.SX.callT Try.prog X 1000 3 (Go.SX.symAll sig 0) (Go.SX.ctxF sig facts 5)) Go.SX.st0 = tree := rfl
attribute [irreducible] tree
set_option maxRecDepth 100000 in
/-- yes, on every way -/
theorem reckoned : Go.SX.allYes tree = true := by kernel_rfl
theorem factsOK (xs0 : List Int) (xs1 : List Int) (xs2 : List Int) (xs3 : List Int) (w0 : Go.SX.wfL ks0 xs0) (w1 : Go.SX.wfL ks1 xs1) (w2 : Go.SX.wfL ks2 xs2) (w3 : Go.SX.wfL ks3 xs3) : ∀ be v, (be, v) ∈ facts → be.den (Go.SX.envOf (List.flatten ([xs0, xs1, xs2, xs3] : List (List Int))) fn) = v := by simp [facts]
theorem walk (xs0 : List Int) (xs1 : List Int) (xs2 : List Int) (xs3 : List Int) (w0 : Go.SX.wfL ks0 xs0) (w1 : Go.SX.wfL ks1 xs1) (w2 : Go.SX.wfL ks2 xs2) (w3 : Go.SX.wfL ks3 xs3) (w : World) :
    Calls Try.prog 3 #[.agg (Go.SX.valsL ks0 xs0).toArray, (Go.SX.valsL ks1 xs1).getD 0 undef, (Go.SX.valsL ks2 xs2).getD 0 undef, (Go.SX.valsL ks3 xs3).getD 0 undef] w fun e w' => e = .returned (.bool true) ∧ Below w.heap.size w w' :=
  Go.SX.calls_facts (P := Try.prog) (X := X) (l := sig) (r := [xs0, xs1, xs2, xs3]) (fn := fn) (n := 1000) (f := 3) (w := w) (facts := facts) (d := 5) mix XOK (⟨xs0, _, rfl, w0, (fun h => by cases h), ⟨xs1, _, rfl, w1, (fun _ => rfl), ⟨xs2, _, rfl, w2, (fun _ => rfl), ⟨xs3, _, rfl, w3, (fun _ => rfl), rfl⟩⟩⟩⟩) (factsOK xs0 xs1 xs2 xs3 w0 w1 w2 w3) tree_eq
    (Go.SX.allYes_holds _ reckoned)

set_option maxRecDepth 100000 in
theorem lifted (os : Os) (started : os.Started) (H : Type) (enc : TypeId × Value → H) :
    ReturnsInHanded {} Try.checked os 3 .any (Rows.estimateSensorsSpec.pre6 enc Try.prog Try.f3 Rows.estimateSensorsRow.domain false) (Rows.estimateSensorsSpec.post enc Try.prog Try.f3 false true false false) := by
  refine returnsInHanded_of_change (C := Try.checked) own started (by kernel_rfl) Try.func3
    (ChangeSpec.witness6 (enc := enc) (C := Try.checked) false ⟨#[], #[.agg #[.int .i64 0, .int .i64 0, .int .i64 0, .int .i64 0], .int .i64 0, .int .i64 0, .int .i64 0], []⟩ 8 (by kernel_rfl) (by kernel_rfl) (by kernel_rfl) (by kernel_rfl)) ?_
  intro W base args ds gs before hval0 hW hcnd _
  have hval : ∀ (j : Nat) t v, Try.f3.params[j]? = some t → args[j]? = some v → Value.okWide Try.prog W .any base t v := hval0
  have hW' := hW
  obtain ⟨p, q, hA0, hV, rfl, hfz, hnd⟩ := hW
  have hA : DataW.TrodAll enc Try.prog W 0 (fun _ => true) true Try.f3.params.toList args.toList ds p := hA0
  rw [Try.params3] at hA hval
  obtain ⟨v0, vs0, d0, ds0, p0, q0, hargs, rfl, rfl, h0, r0⟩ := trodAll_cons hA
  obtain ⟨v1, vs1, d1, ds1, p1, q1, rfl, rfl, rfl, h1, r1⟩ := trodAll_cons r0
  obtain ⟨v2, vs2, d2, ds2, p2, q2, rfl, rfl, rfl, h2, r2⟩ := trodAll_cons r1
  obtain ⟨v3, vs3, d3, ds3, p3, q3, rfl, rfl, rfl, h3, r3⟩ := trodAll_cons r2
  obtain ⟨rfl, rfl, rfl⟩ := trodAll_nil r3
  obtain rfl : args = #[v0, v1, v2, v3] := by cases args; simp_all
  obtain ⟨rfl, rfl⟩ := trodVars_none hV
  have k0 := h0
  have lt0 : ∀ x ∈ p0, x.block < W.heap.size := by obtain ⟨m, hm⟩ := k0; exact DataW.trod_lt m _ _ _ hm
  obtain ⟨xs0, rfl, w0⟩ := Go.SX.open_flat Try.underlying23 40 (ks := ks0) (by kernel_rfl) (by kernel_rfl) (hval 0 23 v0 rfl rfl) h0
  have k1 := h1
  have lt1 : ∀ x ∈ p1, x.block < W.heap.size := by obtain ⟨m, hm⟩ := k1; exact DataW.trod_lt m _ _ _ hm
  obtain ⟨xs1, rfl, w1⟩ := Go.SX.open_flat1 (k := some .i64) Try.underlying2 (hval 1 2 v1 rfl rfl) h1
  have k2 := h2
  have lt2 : ∀ x ∈ p2, x.block < W.heap.size := by obtain ⟨m, hm⟩ := k2; exact DataW.trod_lt m _ _ _ hm
  obtain ⟨xs2, rfl, w2⟩ := Go.SX.open_flat1 (k := some .i64) Try.underlying2 (hval 2 2 v2 rfl rfl) h2
  have k3 := h3
  have lt3 : ∀ x ∈ p3, x.block < W.heap.size := by obtain ⟨m, hm⟩ := k3; exact DataW.trod_lt m _ _ _ hm
  obtain ⟨xs3, rfl, w3⟩ := Go.SX.open_flat1 (k := some .i64) Try.underlying2 (hval 3 2 v3 rfl rfl) h3
  clear hA0 hval0
  refine (walk xs0 xs1 xs2 xs3 w0 w1 w2 w3 W).mono fun e W' ⟨he, bel⟩ => ?_
  subst he
  exact ⟨_, rfl, _, _, _, [], _, [], hW', trodAll_mk1 (shut_bool Try.underlying4 _), (trodAll_cons_mk (Below.trod laidOut (by kernel_rfl) (of_decide_eq_true (by kernel_rfl)) k0 bel lt0) (trodAll_cons_mk (Below.trod laidOut (by kernel_rfl) (of_decide_eq_true (by kernel_rfl)) k1 bel lt1) (trodAll_cons_mk (Below.trod laidOut (by kernel_rfl) (of_decide_eq_true (by kernel_rfl)) k2 bel lt2) (trodAll_cons_mk (Below.trod laidOut (by kernel_rfl) (of_decide_eq_true (by kernel_rfl)) k3 bel lt3) trodAll_mk0)))), rfl, bel.frame _, fun h => by cases h⟩

theorem over : Rows.estimateSensorsRow.holds Try.pinned (OpenSpec.ofChange Rows.estimateSensorsSpec) :=
  OpenClaim.holds_of_wide 3 Try.f3 rfl rfl rfl rfl rfl rfl rfl ⟨rfl, rfl, rfl, rfl, rfl⟩ rfl rfl rfl rfl rfl (by kernel_rfl) Try.func3 (by kernel_rfl)
    (of_decide_eq_true (by kernel_rfl)) (by unfold Func.isWrapper; first | (rw [if_pos (by decide +kernel)]; kernel_rfl) | (rw [if_neg (by decide +kernel)]; exact ⟨rfl, rfl⟩))
    (fun os started H enc _ => lifted os started H enc)

/-- THE STATEMENT -/
theorem proved : Rows.EstimateSensorsSaid := over
#print axioms proved
end Go.Proofs.Ytbabgjpjfjlniaa.estimateSensors
