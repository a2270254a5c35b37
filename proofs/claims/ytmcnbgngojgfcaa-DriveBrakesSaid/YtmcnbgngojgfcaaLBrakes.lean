/- The law DriveBrakes answers true for every input: electric torque and friction brake never work against each other, and together they are as near to the demand as is possible; no condition beyond the row's own. The call is reckoned in a store of named blocks (the texts Sw1 to Sw28), in every order that the model may draw. -/
import Derived.Test.YtmcnbgngojgfcaaRows
import Derived.WalkKit
import Derived.ProofKit
import Derived.OpenShut
import Derived.Below
import Derived.ChangeOld
import Derived.Test.YtmcnbgngojgfcaaSw30
import Derived.Test.YtmcnbgngojgfcaaDr
namespace Go.Proofs.Ytmcnbgngojgfcaa.driveBrakes
open Go.ChangeShapes Go.WideShapes Go.ChangeAt Go.RowKit
set_option linter.unusedVariables false
set_option linter.unusedSimpArgs false

theorem own : ownKnob Try.prog.godebug = none := by kernel_rfl
theorem laidOut : laidOutB Try.prog = true := by kernel_rfl
theorem mix : Try.prog.follows .mixedOrders = true := by kernel_rfl
def ks0 : List (Option IntKind) := [some .i64]
def ks1 : List (Option IntKind) := [some .i64, some .i64]
def ks2 : List (Option IntKind) := [some .i64]
def sh : List Go.SX.PSh := [.flat false ks0, .flat true ks1, .flat false ks2]
open Go.SX
theorem yesLit (env : Env) (b : Bool) : yes env (.bool (.lit b)) = (b = true) := rfl
noncomputable def fn0 : Nat → List Int → Int := Go.SX.rowed (DR.dfn)
def X : Go.SX.Par := Xs
theorem XOK : ∀ fn, (∀ k a, k < 5000 → fn k a = fn0 k a) → Go.SX.ParOK Try.prog fn X := fun fn h => Xs_ok (fn := fn) h
def vt : Go.SX.VT := (.ite (.cmp .leq (.lit (-68719476736)) (.var 0)) (.ite (.neg (.cmp .leq (.var 0) (.lit 68719476736))) (.leaf (.bool (.lit true))) (.ite (.cmp .leq (.lit (-68719476736)) (.var 1)) (.ite (.neg (.cmp .leq (.var 1) (.lit 68719476736))) (.leaf (.bool (.lit true))) (.ite (.cmp .leq (.lit (-68719476736)) (.var 2)) (.ite (.neg (.cmp .leq (.var 2) (.lit 68719476736))) (.leaf (.bool (.lit true))) (.ite (.cmp .leq (.lit 0) (.var 3)) (.ite (.neg (.cmp .leq (.var 3) (.lit 68719476736))) (.leaf (.bool (.lit true))) (.ite (.cmp .gtr (.var 1) (.lit 0)) (.leaf (.bool (.lit true))) (.ite (.cmp .lss (.var 2) (.lit 0)) (.leaf (.bool (.lit true))) (.ite (.cmp .gtr (.app 3 [(.op .sub (.app 3 [(.var 0), (.var 1), (.var 2)]) (.var 0)), (.lit 0), (.var 3)]) (.lit 0)) (.ite (.cmp .geq (.var 0) (.lit 0)) (.leaf (.bool (.lit false))) (.ite (.cmp .neq (.app 3 [(.var 0), (.var 1), (.var 2)]) (.var 1)) (.leaf (.bool (.lit false))) (.ite (.cmp .eql (.op .sub (.app 3 [(.var 0), (.var 1), (.var 2)]) (.app 3 [(.op .sub (.app 3 [(.var 0), (.var 1), (.var 2)]) (.var 0)), (.lit 0), (.var 3)])) (.op .mx (.op .sub (.var 1) (.var 3)) (.var 0))) (.leaf (.bool (.lit true))) (.leaf (.bool (.lit false)))))) (.ite (.cmp .eql (.op .sub (.app 3 [(.var 0), (.var 1), (.var 2)]) (.app 3 [(.op .sub (.app 3 [(.var 0), (.var 1), (.var 2)]) (.var 0)), (.lit 0), (.var 3)])) (.op .mx (.op .sub (.var 1) (.var 3)) (.op .mn (.var 0) (.var 2)))) (.leaf (.bool (.lit true))) (.leaf (.bool (.lit false)))))))) (.leaf (.bool (.lit true))))) (.leaf (.bool (.lit true))))) (.leaf (.bool (.lit true))))) (.leaf (.bool (.lit true))))
set_option maxRecDepth 100000 in
theorem tree_vt : (Go.SX.run (Go.SX.callT Try.prog X 100000 7 (Go.SX.shArgs sh 0 0) (Go.SX.shCtx sh [] 1)) (Go.SX.shSt sh)).vt = vt := by kernel_rfl
open Go.SX in
theorem main (pv : List Go.SX.PV) (w : World) (hw : Go.SX.pvAll w sh pv) : vt.holds (Go.SX.envOf (Go.SX.pvNums pv) (Go.SX.withRows fn0 sh pv)) fun v => Go.SX.yes (Go.SX.envOf (Go.SX.pvNums pv) (Go.SX.withRows fn0 sh pv)) v := by
  obtain ⟨p0, _, rfl, g0, p1, _, rfl, g1, p2, _, rfl, g2, e⟩ := hw
  rw [show _ = ([] : List PV) from e]
  obtain ⟨xs0, rfl, w0⟩ := flatS g0
  obtain ⟨d, rfl, hd⟩ := wfI1 w0
  obtain ⟨xs1, rfl, w1⟩ := flatS g1
  obtain ⟨l, m, rfl, hl, hm⟩ := wfI2 w1
  obtain ⟨xs2, rfl, w2⟩ := flatS g2
  obtain ⟨k, rfl, hk⟩ := wfI1 w2
  have hfn : DR.GoodF (withRows fn0 sh [.flat [d], .flat [l, m], .flat [k]]) := fun k a h => withRows_low h
  generalize withRows fn0 sh [.flat [d], .flat [l, m], .flat [k]] = fn at hfn
  show vt.holds (envOf [d, l, m, k] fn) fun v => yes (envOf [d, l, m, k] fn) v
  simp only [vt, VT.holds, yesLit, den_lit, den_var, den_ite, den_cmp, den_cmpB, den_tst, den_tstF, den_negT, den_negF, den_andT, den_andF, lssT, leqT, gtrT, geqT, eqlT, neqT, lssF, leqF, gtrF, geqF, eqlF, neqF, den_app, den_nilL, den_consL, den_add, den_sub, den_mul, den_tdiv, den_tmod, den_mx, den_mn, den_blit, den_bin, binI, env_v, env_f, List.flatten_cons, List.flatten_nil, List.append_nil, List.cons_append, List.nil_append, List.getD_cons_zero, List.getD_cons_succ, List.getD_nil, DR.q3 hfn, DR.br]
  clear w0 w1 w2 g0 g1 g2 hfn
  repeat' (first | apply And.intro | intro _)
  all_goals first | trivial | omega

theorem walkAll (pv : List Go.SX.PV) (w : World) (hw : Go.SX.pvAll w sh pv) : Calls Try.prog 7 (Go.SX.pvVals sh pv).toArray w fun e w' => e = .returned (.bool true) ∧ Below w.heap.size w w' :=
  Go.SX.calls_rows (fn := Go.SX.withRows fn0 sh pv) mix (XOK _ fun k a h => Go.SX.withRows_low h) hw (Go.SX.withRows_rows (by rfl)) (by simp) tree_vt (main pv w hw)
theorem walk (w : World) (xs0 : List Int) (xs1 : List Int) (xs2 : List Int) (w0 : Go.SX.wfL ks0 xs0) (w1 : Go.SX.wfL ks1 xs1) (w2 : Go.SX.wfL ks2 xs2) :
    Calls Try.prog 7 #[(Go.SX.valsL ks0 xs0).getD 0 undef, .agg (Go.SX.valsL ks1 xs1).toArray, (Go.SX.valsL ks2 xs2).getD 0 undef] w fun e w' => e = .returned (.bool true) ∧ Below w.heap.size w w' :=
  walkAll [.flat xs0, .flat xs1, .flat xs2] w ⟨_, _, rfl, ⟨w0, (fun _ => rfl)⟩, ⟨_, _, rfl, ⟨w1, (fun h => by cases h)⟩, ⟨_, _, rfl, ⟨w2, (fun _ => rfl)⟩, rfl⟩⟩⟩

set_option maxRecDepth 100000 in
theorem lifted (os : Os) (started : os.Started) (H : Type) (enc : TypeId × Value → H) :
    ReturnsInHanded {} Try.checked os 7 .any (Rows.driveBrakesSpec.pre6 enc Try.prog Try.f7 Rows.driveBrakesRow.domain false) (Rows.driveBrakesSpec.post enc Try.prog Try.f7 false true false false) := by
  refine returnsInHanded_of_change (C := Try.checked) own started (by kernel_rfl) Try.func7
    (ChangeSpec.witness6 (enc := enc) (C := Try.checked) false ⟨#[], #[.int .i64 0, .agg #[.int .i64 0, .int .i64 0], .int .i64 0], []⟩ 8 (by kernel_rfl) (by kernel_rfl) (by kernel_rfl) (by kernel_rfl)) ?_
  intro W base args ds gs before hval0 hW hcnd _
  have hval : ∀ (j : Nat) t v, Try.f7.params[j]? = some t → args[j]? = some v → Value.okWide Try.prog W .any base t v := hval0
  have hW' := hW
  obtain ⟨p, q, hA0, hV, rfl, hfz, hnd⟩ := hW
  have hA : DataW.TrodAll enc Try.prog W 0 (fun _ => true) true Try.f7.params.toList args.toList ds p := hA0
  rw [Try.params7] at hA hval
  obtain ⟨v0, vs0, d0, ds0, p0, q0, hargs, rfl, rfl, h0, r0⟩ := trodAll_cons hA
  obtain ⟨v1, vs1, d1, ds1, p1, q1, rfl, rfl, rfl, h1, r1⟩ := trodAll_cons r0
  obtain ⟨v2, vs2, d2, ds2, p2, q2, rfl, rfl, rfl, h2, r2⟩ := trodAll_cons r1
  obtain ⟨rfl, rfl, rfl⟩ := trodAll_nil r2
  obtain rfl : args = #[v0, v1, v2] := by cases args; simp_all
  obtain ⟨rfl, rfl⟩ := trodVars_none hV
  have k0 := h0
  have lt0 : ∀ x ∈ p0, x.block < W.heap.size := by obtain ⟨m, hm⟩ := k0; exact DataW.trod_lt m _ _ _ hm
  obtain ⟨xs0, rfl, w0⟩ := Go.SX.open_flat1 (k := some .i64) Try.underlying2 (hval 0 2 v0 rfl rfl) h0
  have k1 := h1
  have lt1 : ∀ x ∈ p1, x.block < W.heap.size := by obtain ⟨m, hm⟩ := k1; exact DataW.trod_lt m _ _ _ hm
  obtain ⟨xs1, rfl, w1⟩ := Go.SX.open_flat Try.underlying37 40 (ks := ks1) (by kernel_rfl) (by kernel_rfl) (hval 1 37 v1 rfl rfl) h1
  have k2 := h2
  have lt2 : ∀ x ∈ p2, x.block < W.heap.size := by obtain ⟨m, hm⟩ := k2; exact DataW.trod_lt m _ _ _ hm
  obtain ⟨xs2, rfl, w2⟩ := Go.SX.open_flat1 (k := some .i64) Try.underlying2 (hval 2 2 v2 rfl rfl) h2
  clear hA0 hval0
  refine (walk W xs0 xs1 xs2 w0 w1 w2).mono fun e W' ⟨he, bel⟩ => ?_
  subst he
  exact ⟨_, rfl, _, _, _, [], _, [], hW', trodAll_mk1 (shut_bool Try.underlying4 _), (trodAll_cons_mk (Below.trod laidOut (by kernel_rfl) (of_decide_eq_true (by kernel_rfl)) k0 bel lt0) (trodAll_cons_mk (Below.trod laidOut (by kernel_rfl) (of_decide_eq_true (by kernel_rfl)) k1 bel lt1) (trodAll_cons_mk (Below.trod laidOut (by kernel_rfl) (of_decide_eq_true (by kernel_rfl)) k2 bel lt2) trodAll_mk0))), rfl, bel.frame _, fun h => by cases h⟩

theorem over : Rows.driveBrakesRow.holds Try.pinned (OpenSpec.ofChange Rows.driveBrakesSpec) :=
  OpenClaim.holds_of_wide 7 Try.f7 rfl rfl rfl rfl rfl rfl rfl ⟨rfl, rfl, rfl, rfl, rfl⟩ rfl rfl rfl rfl rfl (by kernel_rfl) Try.func7 (by kernel_rfl)
    (of_decide_eq_true (by kernel_rfl)) (by unfold Func.isWrapper; first | (rw [if_pos (by decide +kernel)]; kernel_rfl) | (rw [if_neg (by decide +kernel)]; exact ⟨rfl, rfl⟩))
    (fun os started H enc _ => lifted os started H enc)

/-- THE STATEMENT -/
theorem proved : Rows.DriveBrakesSaid := over
#print axioms proved
end Go.Proofs.Ytmcnbgngojgfcaa.driveBrakes
