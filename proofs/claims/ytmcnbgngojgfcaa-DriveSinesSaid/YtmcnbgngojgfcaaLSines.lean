/- The law DriveSines answers true for every input: sines and cosines are at most 1, the sum of their squares is near 1, and the sine half a turn on has the other sign; no condition beyond the row's own. The call is reckoned in a store of named blocks (the texts Sw1 to Sw28), in every order that the model may draw. -/
import Derived.Test.YtmcnbgngojgfcaaRows
import Derived.WalkKit
import Derived.ProofKit
import Derived.OpenShut
import Derived.Below
import Derived.ChangeOld
import Derived.Test.YtmcnbgngojgfcaaSw30
import Derived.Test.YtmcnbgngojgfcaaDr
namespace Go.Proofs.Ytmcnbgngojgfcaa.driveSines
open Go.ChangeShapes Go.WideShapes Go.ChangeAt Go.RowKit
set_option linter.unusedVariables false
set_option linter.unusedSimpArgs false

theorem own : ownKnob Try.prog.godebug = none := by kernel_rfl
theorem laidOut : laidOutB Try.prog = true := by kernel_rfl
theorem mix : Try.prog.follows .mixedOrders = true := by kernel_rfl
def ks0 : List (Option IntKind) := [some .u16]
def sh : List Go.SX.PSh := [.flat false ks0]
open Go.SX
theorem yesLit (env : Env) (b : Bool) : yes env (.bool (.lit b)) = (b = true) := rfl
noncomputable def fn0 : Nat → List Int → Int := Go.SX.rowed (DR.dfn)
def X : Go.SX.Par := Xs
theorem XOK : ∀ fn, (∀ k a, k < 5000 → fn k a = fn0 k a) → Go.SX.ParOK Try.prog fn X := fun fn h => Xs_ok (fn := fn) h
def vt : Go.SX.VT := (.ite (.cmp .neq (.app 2 [(.op .tmod (.op .add (.var 0) (.lit 32768)) (.lit 65536))]) (.op .sub (.lit 0) (.app 2 [(.var 0)]))) (.leaf (.bool (.lit false))) (.ite (.cmp .leq (.op .sub (.op .add (.op .mul (.app 2 [(.var 0)]) (.app 2 [(.var 0)])) (.op .mul (.app 2 [(.op .tmod (.op .add (.var 0) (.lit 16384)) (.lit 65536))]) (.app 2 [(.op .tmod (.op .add (.var 0) (.lit 16384)) (.lit 65536))]))) (.lit 268435456)) (.lit 2097152)) (.ite (.cmp .geq (.op .sub (.op .add (.op .mul (.app 2 [(.var 0)]) (.app 2 [(.var 0)])) (.op .mul (.app 2 [(.op .tmod (.op .add (.var 0) (.lit 16384)) (.lit 65536))]) (.app 2 [(.op .tmod (.op .add (.var 0) (.lit 16384)) (.lit 65536))]))) (.lit 268435456)) (.lit (-2097152))) (.leaf (.bool (.lit true))) (.leaf (.bool (.lit false)))) (.leaf (.bool (.lit false)))))
set_option maxRecDepth 100000 in
theorem tree_vt : (Go.SX.run (Go.SX.callT Try.prog X 100000 5 (Go.SX.shArgs sh 0 0) (Go.SX.shCtx sh [] 1)) (Go.SX.shSt sh)).vt = vt := by kernel_rfl
open Go.SX in
theorem main (pv : List Go.SX.PV) (w : World) (hw : Go.SX.pvAll w sh pv) : vt.holds (Go.SX.envOf (Go.SX.pvNums pv) (Go.SX.withRows fn0 sh pv)) fun v => Go.SX.yes (Go.SX.envOf (Go.SX.pvNums pv) (Go.SX.withRows fn0 sh pv)) v := by
  obtain ⟨p0, _, rfl, g0, e⟩ := hw
  rw [show _ = ([] : List PV) from e]
  obtain ⟨x, rfl, r0⟩ := flatI g0
  have r : 0 ≤ x ∧ x ≤ 65535 := r0
  have hfn : DR.GoodF (withRows fn0 sh [.flat [x]]) := fun k a h => withRows_low h
  generalize withRows fn0 sh [.flat [x]] = fn at hfn
  show vt.holds (envOf [x] fn) fun v => yes (envOf [x] fn) v
  have e1 := DR.squares r.1 r.2
  have e2 := DR.halfTurn r.1 r.2
  have t1 : (x + 32768).tmod 65536 = (x + 32768) % 65536 := Int.tmod_eq_emod_of_nonneg (by omega)
  have t2 : (x + 16384).tmod 65536 = (x + 16384) % 65536 := Int.tmod_eq_emod_of_nonneg (by omega)
  simp only [vt, VT.holds, yesLit, den_lit, den_var, den_ite, den_cmp, den_cmpB, den_tst, den_tstF, den_negT, den_negF, den_andT, den_andF, lssT, leqT, gtrT, geqT, eqlT, neqT, lssF, leqF, gtrF, geqF, eqlF, neqF, den_app, den_nilL, den_consL, den_add, den_sub, den_mul, den_tdiv, den_tmod, den_mx, den_mn, den_blit, den_bin, binI, env_v, env_f, List.flatten_cons, List.flatten_nil, List.append_nil, List.cons_append, List.nil_append, List.getD_cons_zero, List.getD_cons_succ, List.getD_nil, DR.q2 hfn, t1, t2, e2]
  generalize DR.sineI x * DR.sineI x = a at *
  generalize DR.sineI ((x + 16384) % 65536) * DR.sineI ((x + 16384) % 65536) = b at *
  repeat' (first | apply And.intro | intro _)
  all_goals first | trivial | omega

theorem walkAll (pv : List Go.SX.PV) (w : World) (hw : Go.SX.pvAll w sh pv) : Calls Try.prog 5 (Go.SX.pvVals sh pv).toArray w fun e w' => e = .returned (.bool true) ∧ Below w.heap.size w w' :=
  Go.SX.calls_rows (fn := Go.SX.withRows fn0 sh pv) mix (XOK _ fun k a h => Go.SX.withRows_low h) hw (Go.SX.withRows_rows (by rfl)) (by simp) tree_vt (main pv w hw)
theorem walk (w : World) (xs0 : List Int) (w0 : Go.SX.wfL ks0 xs0) :
    Calls Try.prog 5 #[(Go.SX.valsL ks0 xs0).getD 0 undef] w fun e w' => e = .returned (.bool true) ∧ Below w.heap.size w w' :=
  walkAll [.flat xs0] w ⟨_, _, rfl, ⟨w0, (fun _ => rfl)⟩, rfl⟩

set_option maxRecDepth 100000 in
theorem lifted (os : Os) (started : os.Started) (H : Type) (enc : TypeId × Value → H) :
    ReturnsInHanded {} Try.checked os 5 .any (Rows.driveSinesSpec.pre6 enc Try.prog Try.f5 Rows.driveSinesRow.domain false) (Rows.driveSinesSpec.post enc Try.prog Try.f5 false true false false) := by
  refine returnsInHanded_of_change (C := Try.checked) own started (by kernel_rfl) Try.func5
    (ChangeSpec.witness6 (enc := enc) (C := Try.checked) false ⟨#[], #[.int .u16 0], []⟩ 8 (by kernel_rfl) (by kernel_rfl) (by kernel_rfl) (by kernel_rfl)) ?_
  intro W base args ds gs before hval0 hW hcnd _
  have hval : ∀ (j : Nat) t v, Try.f5.params[j]? = some t → args[j]? = some v → Value.okWide Try.prog W .any base t v := hval0
  have hW' := hW
  obtain ⟨p, q, hA0, hV, rfl, hfz, hnd⟩ := hW
  have hA : DataW.TrodAll enc Try.prog W 0 (fun _ => true) true Try.f5.params.toList args.toList ds p := hA0
  rw [Try.params5] at hA hval
  obtain ⟨v0, vs0, d0, ds0, p0, q0, hargs, rfl, rfl, h0, r0⟩ := trodAll_cons hA
  obtain ⟨rfl, rfl, rfl⟩ := trodAll_nil r0
  obtain rfl : args = #[v0] := by cases args; simp_all
  obtain ⟨rfl, rfl⟩ := trodVars_none hV
  have k0 := h0
  have lt0 : ∀ x ∈ p0, x.block < W.heap.size := by obtain ⟨m, hm⟩ := k0; exact DataW.trod_lt m _ _ _ hm
  obtain ⟨xs0, rfl, w0⟩ := Go.SX.open_flat1 (k := some .u16) Try.underlying40 (hval 0 40 v0 rfl rfl) h0
  clear hA0 hval0
  refine (walk W xs0 w0).mono fun e W' ⟨he, bel⟩ => ?_
  subst he
  exact ⟨_, rfl, _, _, _, [], _, [], hW', trodAll_mk1 (shut_bool Try.underlying4 _), (trodAll_cons_mk (Below.trod laidOut (by kernel_rfl) (of_decide_eq_true (by kernel_rfl)) k0 bel lt0) trodAll_mk0), rfl, bel.frame _, fun h => by cases h⟩

theorem over : Rows.driveSinesRow.holds Try.pinned (OpenSpec.ofChange Rows.driveSinesSpec) :=
  OpenClaim.holds_of_wide 5 Try.f5 rfl rfl rfl rfl rfl rfl rfl ⟨rfl, rfl, rfl, rfl, rfl⟩ rfl rfl rfl rfl rfl (by kernel_rfl) Try.func5 (by kernel_rfl)
    (of_decide_eq_true (by kernel_rfl)) (by unfold Func.isWrapper; first | (rw [if_pos (by decide +kernel)]; kernel_rfl) | (rw [if_neg (by decide +kernel)]; exact ⟨rfl, rfl⟩))
    (fun os started H enc _ => lifted os started H enc)

/-- THE STATEMENT -/
theorem proved : Rows.DriveSinesSaid := over
#print axioms proved
end Go.Proofs.Ytmcnbgngojgfcaa.driveSines
