/- The law QuantityMeets answers true for every input: a number is in the meeting of two spans just if it is in both, and in their hull if it is in one of them; no condition beyond the row's own. -/
import Derived.Test.YtlaalhbicblbeaaRows
import Derived.WalkKit
import Derived.ProofKit
import Derived.OpenShut
import Derived.Below
import Derived.ChangeOld
import Derived.Test.YtlaalhbicblbeaaSy24
import Derived.Test.YtlaalhbicblbeaaQfc
import Derived.Test.YtlaalhbicblbeaaQm1
namespace Go.Proofs.Ytlaalhbicblbeaa.quantityMeets
open Go.ChangeShapes Go.WideShapes Go.ChangeAt Go.RowKit
set_option linter.unusedVariables false
set_option linter.unusedSimpArgs false

theorem own : ownKnob Try.prog.godebug = none := by kernel_rfl
theorem laidOut : laidOutB Try.prog = true := by kernel_rfl
theorem mix : Try.prog.follows .mixedOrders = true := by kernel_rfl
def ks0 : List (Option IntKind) := [some .i16, some .i16, some .u16]
def ks1 : List (Option IntKind) := [some .i16, some .i16, some .u16]
def ks2 : List (Option IntKind) := [some .i16]
def sig : List (Bool × List (Option IntKind)) := [(true, ks0), (true, ks1), (false, ks2)]
def fn : Nat → List Int → Int := sfn
def X : Go.SX.Par := { smallPar with jc := fun f => !Nat.beq f 10 }
theorem XOK : Go.SX.ParOK Try.prog fn X := ⟨smallPar_ok.book, smallPar_ok.loops⟩
def facts : List (Go.SX.BE × Bool) := [fact0, fact1, fact2, fact3, fact4, fact5, fact6, fact7, fact8]
/-- what the call comes to -/
noncomputable def tree : Go.SX.PT := Go.SX.run (Go.SX.callT Try.prog X 100000 10 (Go.SX.symAll sig 0) (Go.SX.ctxF sig facts 0)) Go.SX.st0
theorem tree_eq : Go.SX.run (Go.SX.callT Try.prog X 100000 10 (Go.SX.symAll sig 0) (Go.SX.ctxF sig facts 0)) Go.SX.st0 = tree := rfl
attribute [irreducible] tree
set_option maxRecDepth 100000 in
/-- yes, on every way -/
theorem reckoned : Go.SX.allYes tree = true := by kernel_rfl
theorem factsOK (xs0 : List Int) (xs1 : List Int) (xs2 : List Int) (w0 : Go.SX.wfL ks0 xs0) (w1 : Go.SX.wfL ks1 xs1) (w2 : Go.SX.wfL ks2 xs2) : ∀ be v, (be, v) ∈ facts → be.den (Go.SX.envOf (List.flatten ([xs0, xs1, xs2] : List (List Int))) fn) = v := by
  obtain ⟨a, _, rfl, a1, b, _, rfl, b1, c, _, rfl, c1, e⟩ := w0
  rw [show _ = ([] : List Int) from e]
  obtain ⟨a', _, rfl, a1', b', _, rfl, b1', c', _, rfl, c1', e'⟩ := w1
  rw [show _ = ([] : List Int) from e']
  obtain ⟨x, _, rfl, x1, e''⟩ := w2
  rw [show _ = ([] : List Int) from e'']
  have h1 : -32768 ≤ a ∧ a ≤ 32767 := Go.SX.wf_rng (a1 _ rfl)
  have h2 : -32768 ≤ b ∧ b ≤ 32767 := Go.SX.wf_rng (b1 _ rfl)
  have h3 : 0 ≤ c ∧ c ≤ 65535 := Go.SX.wf_rng (c1 _ rfl)
  have k1 : -32768 ≤ a' ∧ a' ≤ 32767 := Go.SX.wf_rng (a1' _ rfl)
  have k2 : -32768 ≤ b' ∧ b' ≤ 32767 := Go.SX.wf_rng (b1' _ rfl)
  have k3 : 0 ≤ c' ∧ c' ≤ 65535 := Go.SX.wf_rng (c1' _ rfl)
  intro be v hm
  simp only [facts, List.mem_cons, List.not_mem_nil, or_false] at hm
  rcases hm with hm | hm | hm | hm | hm | hm | hm | hm | hm
  · cases hm; exact fact0_ok a b c a' b' c' x h1 h2 h3 k1 k2 k3
  · cases hm; exact fact1_ok a b c a' b' c' x h1 h2 h3 k1 k2 k3
  · cases hm; exact fact2_ok a b c a' b' c' x h1 h2 h3 k1 k2 k3
  · cases hm; exact fact3_ok a b c a' b' c' x h1 h2 h3 k1 k2 k3
  · cases hm; exact fact4_ok a b c a' b' c' x h1 h2 h3 k1 k2 k3
  · cases hm; exact fact5_ok a b c a' b' c' x h1 h2 h3 k1 k2 k3
  · cases hm; exact fact6_ok a b c a' b' c' x h1 h2 h3 k1 k2 k3
  · cases hm; exact fact7_ok a b c a' b' c' x h1 h2 h3 k1 k2 k3
  · cases hm; exact fact8_ok a b c a' b' c' x h1 h2 h3 k1 k2 k3
theorem walk (xs0 : List Int) (xs1 : List Int) (xs2 : List Int) (w0 : Go.SX.wfL ks0 xs0) (w1 : Go.SX.wfL ks1 xs1) (w2 : Go.SX.wfL ks2 xs2) (w : World) :
    Calls Try.prog 10 #[.agg (Go.SX.valsL ks0 xs0).toArray, .agg (Go.SX.valsL ks1 xs1).toArray, (Go.SX.valsL ks2 xs2).getD 0 undef] w fun e w' => e = .returned (.bool true) ∧ Below w.heap.size w w' :=
  Go.SX.calls_facts (P := Try.prog) (X := X) (l := sig) (r := [xs0, xs1, xs2]) (fn := fn) (n := 100000) (f := 10) (w := w) (facts := facts) (d := 0) mix XOK (⟨xs0, _, rfl, w0, (fun h => by cases h), ⟨xs1, _, rfl, w1, (fun h => by cases h), ⟨xs2, _, rfl, w2, (fun _ => rfl), rfl⟩⟩⟩) (factsOK xs0 xs1 xs2 w0 w1 w2) tree_eq
    (Go.SX.allYes_holds _ reckoned)

set_option maxRecDepth 100000 in
theorem lifted (os : Os) (started : os.Started) (H : Type) (enc : TypeId × Value → H) :
    ReturnsInHanded {} Try.checked os 10 .any (Rows.quantityMeetsSpec.pre6 enc Try.prog Try.f10 Rows.quantityMeetsRow.domain false) (Rows.quantityMeetsSpec.post enc Try.prog Try.f10 false true false false) := by
  refine returnsInHanded_of_change (C := Try.checked) own started (by kernel_rfl) Try.func10
    (ChangeSpec.witness6 (enc := enc) (C := Try.checked) false ⟨#[], #[.agg #[.int .i16 0, .int .i16 0, .int .u16 0], .agg #[.int .i16 0, .int .i16 0, .int .u16 0], .int .i16 0], []⟩ 8 (by kernel_rfl) (by kernel_rfl) (by kernel_rfl) (by kernel_rfl)) ?_
  intro W base args ds gs before hval0 hW hcnd _
  have hval : ∀ (j : Nat) t v, Try.f10.params[j]? = some t → args[j]? = some v → Value.okWide Try.prog W .any base t v := hval0
  have hW' := hW
  obtain ⟨p, q, hA0, hV, rfl, hfz, hnd⟩ := hW
  have hA : DataW.TrodAll enc Try.prog W 0 (fun _ => true) true Try.f10.params.toList args.toList ds p := hA0
  rw [Try.params10] at hA hval
  obtain ⟨v0, vs0, d0, ds0, p0, q0, hargs, rfl, rfl, h0, r0⟩ := trodAll_cons hA
  obtain ⟨v1, vs1, d1, ds1, p1, q1, rfl, rfl, rfl, h1, r1⟩ := trodAll_cons r0
  obtain ⟨v2, vs2, d2, ds2, p2, q2, rfl, rfl, rfl, h2, r2⟩ := trodAll_cons r1
  obtain ⟨rfl, rfl, rfl⟩ := trodAll_nil r2
  obtain rfl : args = #[v0, v1, v2] := by cases args; simp_all
  obtain ⟨rfl, rfl⟩ := trodVars_none hV
  have k0 := h0
  have lt0 : ∀ x ∈ p0, x.block < W.heap.size := by obtain ⟨m, hm⟩ := k0; exact DataW.trod_lt m _ _ _ hm
  obtain ⟨xs0, rfl, w0⟩ := Go.SX.open_flat Try.underlying64 40 (ks := ks0) (by kernel_rfl) (by kernel_rfl) (hval 0 64 v0 rfl rfl) h0
  have k1 := h1
  have lt1 : ∀ x ∈ p1, x.block < W.heap.size := by obtain ⟨m, hm⟩ := k1; exact DataW.trod_lt m _ _ _ hm
  obtain ⟨xs1, rfl, w1⟩ := Go.SX.open_flat Try.underlying64 40 (ks := ks1) (by kernel_rfl) (by kernel_rfl) (hval 1 64 v1 rfl rfl) h1
  have k2 := h2
  have lt2 : ∀ x ∈ p2, x.block < W.heap.size := by obtain ⟨m, hm⟩ := k2; exact DataW.trod_lt m _ _ _ hm
  obtain ⟨xs2, rfl, w2⟩ := Go.SX.open_flat1 (k := some .i16) Try.underlying61 (hval 2 61 v2 rfl rfl) h2
  clear hA0 hval0
  refine (walk xs0 xs1 xs2 w0 w1 w2 W).mono fun e W' ⟨he, bel⟩ => ?_
  subst he
  exact ⟨_, rfl, _, _, _, [], _, [], hW', trodAll_mk1 (shut_bool Try.underlying4 _), (trodAll_cons_mk (Below.trod laidOut (by kernel_rfl) (of_decide_eq_true (by kernel_rfl)) k0 bel lt0) (trodAll_cons_mk (Below.trod laidOut (by kernel_rfl) (of_decide_eq_true (by kernel_rfl)) k1 bel lt1) (trodAll_cons_mk (Below.trod laidOut (by kernel_rfl) (of_decide_eq_true (by kernel_rfl)) k2 bel lt2) trodAll_mk0))), rfl, bel.frame _, fun h => by cases h⟩

theorem over : Rows.quantityMeetsRow.holds Try.pinned (OpenSpec.ofChange Rows.quantityMeetsSpec) :=
  OpenClaim.holds_of_wide 10 Try.f10 rfl rfl rfl rfl rfl rfl rfl ⟨rfl, rfl, rfl, rfl, rfl⟩ rfl rfl rfl rfl rfl (by kernel_rfl) Try.func10 (by kernel_rfl)
    (of_decide_eq_true (by kernel_rfl)) (by unfold Func.isWrapper; first | (rw [if_pos (by decide +kernel)]; kernel_rfl) | (rw [if_neg (by decide +kernel)]; exact ⟨rfl, rfl⟩))
    (fun os started H enc _ => lifted os started H enc)

/-- THE STATEMENT -/
theorem proved : Rows.QuantityMeetsSaid := over
#print axioms proved
end Go.Proofs.Ytlaalhbicblbeaa.quantityMeets
