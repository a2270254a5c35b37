/- The law DriveDuties answers true for every input: all duties are possible; the greatest and the least one have the sum Whole, or one less; if the phases are not cut, the duties differ as the phases do, up to 1; no condition beyond the row's own. The call is reckoned in a store of named blocks (the texts Sw1 to Sw28), in every order that the model may draw. -/
import Derived.Test.YtmcnbgngojgfcaaRows
import Derived.WalkKit
import Derived.ProofKit
import Derived.OpenShut
import Derived.Below
import Derived.ChangeOld
import Derived.Test.YtmcnbgngojgfcaaSw30
import Derived.Test.YtmcnbgngojgfcaaDr
namespace Go.Proofs.Ytmcnbgngojgfcaa.driveDuties
open Go.ChangeShapes Go.WideShapes Go.ChangeAt Go.RowKit
set_option linter.unusedVariables false
set_option linter.unusedSimpArgs false

theorem own : ownKnob Try.prog.godebug = none := by kernel_rfl
theorem laidOut : laidOutB Try.prog = true := by kernel_rfl
theorem mix : Try.prog.follows .mixedOrders = true := by kernel_rfl
def ks0 : List (Option IntKind) := [some .i64, some .i64, some .i64]
def ks1 : List (Option IntKind) := [some .i64]
def sh : List Go.SX.PSh := [.flat true ks0, .flat false ks1]
open Go.SX
theorem yesLit (env : Env) (b : Bool) : yes env (.bool (.lit b)) = (b = true) := rfl
theorem eqbF (env : Env) (a b : BE) : ((BE.eqb a b).den env = false) = ¬ (a.den env = b.den env) := by simp [BE.den]
theorem eqbT (env : Env) (a b : BE) : ((BE.eqb a b).den env = true) = (a.den env = b.den env) := by simp [BE.den]
noncomputable def fn0 : Nat → List Int → Int := Go.SX.rowed (DR.dfn)
def X : Go.SX.Par := Xk
theorem XOK : ∀ fn, (∀ k a, k < 5000 → fn k a = fn0 k a) → Go.SX.ParOK Try.prog fn X := fun fn h => Xk_ok (fn := fn) h
def vt : Go.SX.VT := (.ite (.cmp .neq (.app 24 [(.var 0), (.var 1), (.var 2), (.var 3)]) (.lit 0)) (.ite (.cmp .eql (.app 24 [(.var 0), (.var 1), (.var 2), (.var 3)]) (.lit 3)) (.leaf (.bool (.lit true))) (.leaf (.bool (.lit false)))) (.ite (.cmp .neq (.op .add (.op .mx (.op .mx (.app 20 [(.var 0), (.var 1), (.var 2), (.var 3)]) (.app 21 [(.var 0), (.var 1), (.var 2), (.var 3)])) (.app 22 [(.var 0), (.var 1), (.var 2), (.var 3)])) (.op .mn (.op .mn (.app 20 [(.var 0), (.var 1), (.var 2), (.var 3)]) (.app 21 [(.var 0), (.var 1), (.var 2), (.var 3)])) (.app 22 [(.var 0), (.var 1), (.var 2), (.var 3)]))) (.lit 65536)) (.ite (.cmp .neq (.op .add (.op .mx (.op .mx (.app 20 [(.var 0), (.var 1), (.var 2), (.var 3)]) (.app 21 [(.var 0), (.var 1), (.var 2), (.var 3)])) (.app 22 [(.var 0), (.var 1), (.var 2), (.var 3)])) (.op .mn (.op .mn (.app 20 [(.var 0), (.var 1), (.var 2), (.var 3)]) (.app 21 [(.var 0), (.var 1), (.var 2), (.var 3)])) (.app 22 [(.var 0), (.var 1), (.var 2), (.var 3)]))) (.lit 65535)) (.leaf (.bool (.lit false))) (.ite (.neg (.eqb (.tst (.app 23 [(.var 0), (.var 1), (.var 2), (.var 3)])) (.cmp .gtr (.bin .sub .i64 (.op .mx (.op .mx (.var 0) (.var 1)) (.var 2)) (.op .mn (.op .mn (.var 0) (.var 1)) (.var 2))) (.var 3)))) (.leaf (.bool (.lit false))) (.ite (.neg (.tst (.app 23 [(.var 0), (.var 1), (.var 2), (.var 3)]))) (.ite (.cmp .geq (.bin .sub .i64 (.bin .mul .i64 (.op .sub (.app 20 [(.var 0), (.var 1), (.var 2), (.var 3)]) (.app 20 [(.var 0), (.var 1), (.var 2), (.var 3)])) (.var 3)) (.bin .mul .i64 (.bin .sub .i64 (.var 0) (.var 0)) (.lit 65536))) (.var 3)) (.leaf (.bool (.lit false))) (.ite (.cmp .leq (.bin .sub .i64 (.bin .mul .i64 (.op .sub (.app 20 [(.var 0), (.var 1), (.var 2), (.var 3)]) (.app 20 [(.var 0), (.var 1), (.var 2), (.var 3)])) (.var 3)) (.bin .mul .i64 (.bin .sub .i64 (.var 0) (.var 0)) (.lit 65536))) (.op .sub (.lit 0) (.var 3))) (.leaf (.bool (.lit false))) (.ite (.cmp .geq (.bin .sub .i64 (.bin .mul .i64 (.op .sub (.app 20 [(.var 0), (.var 1), (.var 2), (.var 3)]) (.app 21 [(.var 0), (.var 1), (.var 2), (.var 3)])) (.var 3)) (.bin .mul .i64 (.bin .sub .i64 (.var 0) (.var 1)) (.lit 65536))) (.var 3)) (.leaf (.bool (.lit false))) (.ite (.cmp .leq (.bin .sub .i64 (.bin .mul .i64 (.op .sub (.app 20 [(.var 0), (.var 1), (.var 2), (.var 3)]) (.app 21 [(.var 0), (.var 1), (.var 2), (.var 3)])) (.var 3)) (.bin .mul .i64 (.bin .sub .i64 (.var 0) (.var 1)) (.lit 65536))) (.op .sub (.lit 0) (.var 3))) (.leaf (.bool (.lit false))) (.ite (.cmp .geq (.bin .sub .i64 (.bin .mul .i64 (.op .sub (.app 20 [(.var 0), (.var 1), (.var 2), (.var 3)]) (.app 22 [(.var 0), (.var 1), (.var 2), (.var 3)])) (.var 3)) (.bin .mul .i64 (.bin .sub .i64 (.var 0) (.var 2)) (.lit 65536))) (.var 3)) (.leaf (.bool (.lit false))) (.ite (.cmp .leq (.bin .sub .i64 (.bin .mul .i64 (.op .sub (.app 20 [(.var 0), (.var 1), (.var 2), (.var 3)]) (.app 22 [(.var 0), (.var 1), (.var 2), (.var 3)])) (.var 3)) (.bin .mul .i64 (.bin .sub .i64 (.var 0) (.var 2)) (.lit 65536))) (.op .sub (.lit 0) (.var 3))) (.leaf (.bool (.lit false))) (.ite (.cmp .geq (.bin .sub .i64 (.bin .mul .i64 (.op .sub (.app 21 [(.var 0), (.var 1), (.var 2), (.var 3)]) (.app 20 [(.var 0), (.var 1), (.var 2), (.var 3)])) (.var 3)) (.bin .mul .i64 (.bin .sub .i64 (.var 1) (.var 0)) (.lit 65536))) (.var 3)) (.leaf (.bool (.lit false))) (.ite (.cmp .leq (.bin .sub .i64 (.bin .mul .i64 (.op .sub (.app 21 [(.var 0), (.var 1), (.var 2), (.var 3)]) (.app 20 [(.var 0), (.var 1), (.var 2), (.var 3)])) (.var 3)) (.bin .mul .i64 (.bin .sub .i64 (.var 1) (.var 0)) (.lit 65536))) (.op .sub (.lit 0) (.var 3))) (.leaf (.bool (.lit false))) (.ite (.cmp .geq (.bin .sub .i64 (.bin .mul .i64 (.op .sub (.app 21 [(.var 0), (.var 1), (.var 2), (.var 3)]) (.app 21 [(.var 0), (.var 1), (.var 2), (.var 3)])) (.var 3)) (.bin .mul .i64 (.bin .sub .i64 (.var 1) (.var 1)) (.lit 65536))) (.var 3)) (.leaf (.bool (.lit false))) (.ite (.cmp .leq (.bin .sub .i64 (.bin .mul .i64 (.op .sub (.app 21 [(.var 0), (.var 1), (.var 2), (.var 3)]) (.app 21 [(.var 0), (.var 1), (.var 2), (.var 3)])) (.var 3)) (.bin .mul .i64 (.bin .sub .i64 (.var 1) (.var 1)) (.lit 65536))) (.op .sub (.lit 0) (.var 3))) (.leaf (.bool (.lit false))) (.ite (.cmp .geq (.bin .sub .i64 (.bin .mul .i64 (.op .sub (.app 21 [(.var 0), (.var 1), (.var 2), (.var 3)]) (.app 22 [(.var 0), (.var 1), (.var 2), (.var 3)])) (.var 3)) (.bin .mul .i64 (.bin .sub .i64 (.var 1) (.var 2)) (.lit 65536))) (.var 3)) (.leaf (.bool (.lit false))) (.ite (.cmp .leq (.bin .sub .i64 (.bin .mul .i64 (.op .sub (.app 21 [(.var 0), (.var 1), (.var 2), (.var 3)]) (.app 22 [(.var 0), (.var 1), (.var 2), (.var 3)])) (.var 3)) (.bin .mul .i64 (.bin .sub .i64 (.var 1) (.var 2)) (.lit 65536))) (.op .sub (.lit 0) (.var 3))) (.leaf (.bool (.lit false))) (.ite (.cmp .geq (.bin .sub .i64 (.bin .mul .i64 (.op .sub (.app 22 [(.var 0), (.var 1), (.var 2), (.var 3)]) (.app 20 [(.var 0), (.var 1), (.var 2), (.var 3)])) (.var 3)) (.bin .mul .i64 (.bin .sub .i64 (.var 2) (.var 0)) (.lit 65536))) (.var 3)) (.leaf (.bool (.lit false))) (.ite (.cmp .leq (.bin .sub .i64 (.bin .mul .i64 (.op .sub (.app 22 [(.var 0), (.var 1), (.var 2), (.var 3)]) (.app 20 [(.var 0), (.var 1), (.var 2), (.var 3)])) (.var 3)) (.bin .mul .i64 (.bin .sub .i64 (.var 2) (.var 0)) (.lit 65536))) (.op .sub (.lit 0) (.var 3))) (.leaf (.bool (.lit false))) (.ite (.cmp .geq (.bin .sub .i64 (.bin .mul .i64 (.op .sub (.app 22 [(.var 0), (.var 1), (.var 2), (.var 3)]) (.app 21 [(.var 0), (.var 1), (.var 2), (.var 3)])) (.var 3)) (.bin .mul .i64 (.bin .sub .i64 (.var 2) (.var 1)) (.lit 65536))) (.var 3)) (.leaf (.bool (.lit false))) (.ite (.cmp .leq (.bin .sub .i64 (.bin .mul .i64 (.op .sub (.app 22 [(.var 0), (.var 1), (.var 2), (.var 3)]) (.app 21 [(.var 0), (.var 1), (.var 2), (.var 3)])) (.var 3)) (.bin .mul .i64 (.bin .sub .i64 (.var 2) (.var 1)) (.lit 65536))) (.op .sub (.lit 0) (.var 3))) (.leaf (.bool (.lit false))) (.ite (.cmp .geq (.bin .sub .i64 (.bin .mul .i64 (.op .sub (.app 22 [(.var 0), (.var 1), (.var 2), (.var 3)]) (.app 22 [(.var 0), (.var 1), (.var 2), (.var 3)])) (.var 3)) (.bin .mul .i64 (.bin .sub .i64 (.var 2) (.var 2)) (.lit 65536))) (.var 3)) (.leaf (.bool (.lit false))) (.ite (.cmp .leq (.bin .sub .i64 (.bin .mul .i64 (.op .sub (.app 22 [(.var 0), (.var 1), (.var 2), (.var 3)]) (.app 22 [(.var 0), (.var 1), (.var 2), (.var 3)])) (.var 3)) (.bin .mul .i64 (.bin .sub .i64 (.var 2) (.var 2)) (.lit 65536))) (.op .sub (.lit 0) (.var 3))) (.leaf (.bool (.lit false))) (.leaf (.bool (.lit true))))))))))))))))))))) (.leaf (.bool (.lit true)))))) (.ite (.neg (.eqb (.tst (.app 23 [(.var 0), (.var 1), (.var 2), (.var 3)])) (.cmp .gtr (.bin .sub .i64 (.op .mx (.op .mx (.var 0) (.var 1)) (.var 2)) (.op .mn (.op .mn (.var 0) (.var 1)) (.var 2))) (.var 3)))) (.leaf (.bool (.lit false))) (.ite (.neg (.tst (.app 23 [(.var 0), (.var 1), (.var 2), (.var 3)]))) (.ite (.cmp .geq (.bin .sub .i64 (.bin .mul .i64 (.op .sub (.app 20 [(.var 0), (.var 1), (.var 2), (.var 3)]) (.app 20 [(.var 0), (.var 1), (.var 2), (.var 3)])) (.var 3)) (.bin .mul .i64 (.bin .sub .i64 (.var 0) (.var 0)) (.lit 65536))) (.var 3)) (.leaf (.bool (.lit false))) (.ite (.cmp .leq (.bin .sub .i64 (.bin .mul .i64 (.op .sub (.app 20 [(.var 0), (.var 1), (.var 2), (.var 3)]) (.app 20 [(.var 0), (.var 1), (.var 2), (.var 3)])) (.var 3)) (.bin .mul .i64 (.bin .sub .i64 (.var 0) (.var 0)) (.lit 65536))) (.op .sub (.lit 0) (.var 3))) (.leaf (.bool (.lit false))) (.ite (.cmp .geq (.bin .sub .i64 (.bin .mul .i64 (.op .sub (.app 20 [(.var 0), (.var 1), (.var 2), (.var 3)]) (.app 21 [(.var 0), (.var 1), (.var 2), (.var 3)])) (.var 3)) (.bin .mul .i64 (.bin .sub .i64 (.var 0) (.var 1)) (.lit 65536))) (.var 3)) (.leaf (.bool (.lit false))) (.ite (.cmp .leq (.bin .sub .i64 (.bin .mul .i64 (.op .sub (.app 20 [(.var 0), (.var 1), (.var 2), (.var 3)]) (.app 21 [(.var 0), (.var 1), (.var 2), (.var 3)])) (.var 3)) (.bin .mul .i64 (.bin .sub .i64 (.var 0) (.var 1)) (.lit 65536))) (.op .sub (.lit 0) (.var 3))) (.leaf (.bool (.lit false))) (.ite (.cmp .geq (.bin .sub .i64 (.bin .mul .i64 (.op .sub (.app 20 [(.var 0), (.var 1), (.var 2), (.var 3)]) (.app 22 [(.var 0), (.var 1), (.var 2), (.var 3)])) (.var 3)) (.bin .mul .i64 (.bin .sub .i64 (.var 0) (.var 2)) (.lit 65536))) (.var 3)) (.leaf (.bool (.lit false))) (.ite (.cmp .leq (.bin .sub .i64 (.bin .mul .i64 (.op .sub (.app 20 [(.var 0), (.var 1), (.var 2), (.var 3)]) (.app 22 [(.var 0), (.var 1), (.var 2), (.var 3)])) (.var 3)) (.bin .mul .i64 (.bin .sub .i64 (.var 0) (.var 2)) (.lit 65536))) (.op .sub (.lit 0) (.var 3))) (.leaf (.bool (.lit false))) (.ite (.cmp .geq (.bin .sub .i64 (.bin .mul .i64 (.op .sub (.app 21 [(.var 0), (.var 1), (.var 2), (.var 3)]) (.app 20 [(.var 0), (.var 1), (.var 2), (.var 3)])) (.var 3)) (.bin .mul .i64 (.bin .sub .i64 (.var 1) (.var 0)) (.lit 65536))) (.var 3)) (.leaf (.bool (.lit false))) (.ite (.cmp .leq (.bin .sub .i64 (.bin .mul .i64 (.op .sub (.app 21 [(.var 0), (.var 1), (.var 2), (.var 3)]) (.app 20 [(.var 0), (.var 1), (.var 2), (.var 3)])) (.var 3)) (.bin .mul .i64 (.bin .sub .i64 (.var 1) (.var 0)) (.lit 65536))) (.op .sub (.lit 0) (.var 3))) (.leaf (.bool (.lit false))) (.ite (.cmp .geq (.bin .sub .i64 (.bin .mul .i64 (.op .sub (.app 21 [(.var 0), (.var 1), (.var 2), (.var 3)]) (.app 21 [(.var 0), (.var 1), (.var 2), (.var 3)])) (.var 3)) (.bin .mul .i64 (.bin .sub .i64 (.var 1) (.var 1)) (.lit 65536))) (.var 3)) (.leaf (.bool (.lit false))) (.ite (.cmp .leq (.bin .sub .i64 (.bin .mul .i64 (.op .sub (.app 21 [(.var 0), (.var 1), (.var 2), (.var 3)]) (.app 21 [(.var 0), (.var 1), (.var 2), (.var 3)])) (.var 3)) (.bin .mul .i64 (.bin .sub .i64 (.var 1) (.var 1)) (.lit 65536))) (.op .sub (.lit 0) (.var 3))) (.leaf (.bool (.lit false))) (.ite (.cmp .geq (.bin .sub .i64 (.bin .mul .i64 (.op .sub (.app 21 [(.var 0), (.var 1), (.var 2), (.var 3)]) (.app 22 [(.var 0), (.var 1), (.var 2), (.var 3)])) (.var 3)) (.bin .mul .i64 (.bin .sub .i64 (.var 1) (.var 2)) (.lit 65536))) (.var 3)) (.leaf (.bool (.lit false))) (.ite (.cmp .leq (.bin .sub .i64 (.bin .mul .i64 (.op .sub (.app 21 [(.var 0), (.var 1), (.var 2), (.var 3)]) (.app 22 [(.var 0), (.var 1), (.var 2), (.var 3)])) (.var 3)) (.bin .mul .i64 (.bin .sub .i64 (.var 1) (.var 2)) (.lit 65536))) (.op .sub (.lit 0) (.var 3))) (.leaf (.bool (.lit false))) (.ite (.cmp .geq (.bin .sub .i64 (.bin .mul .i64 (.op .sub (.app 22 [(.var 0), (.var 1), (.var 2), (.var 3)]) (.app 20 [(.var 0), (.var 1), (.var 2), (.var 3)])) (.var 3)) (.bin .mul .i64 (.bin .sub .i64 (.var 2) (.var 0)) (.lit 65536))) (.var 3)) (.leaf (.bool (.lit false))) (.ite (.cmp .leq (.bin .sub .i64 (.bin .mul .i64 (.op .sub (.app 22 [(.var 0), (.var 1), (.var 2), (.var 3)]) (.app 20 [(.var 0), (.var 1), (.var 2), (.var 3)])) (.var 3)) (.bin .mul .i64 (.bin .sub .i64 (.var 2) (.var 0)) (.lit 65536))) (.op .sub (.lit 0) (.var 3))) (.leaf (.bool (.lit false))) (.ite (.cmp .geq (.bin .sub .i64 (.bin .mul .i64 (.op .sub (.app 22 [(.var 0), (.var 1), (.var 2), (.var 3)]) (.app 21 [(.var 0), (.var 1), (.var 2), (.var 3)])) (.var 3)) (.bin .mul .i64 (.bin .sub .i64 (.var 2) (.var 1)) (.lit 65536))) (.var 3)) (.leaf (.bool (.lit false))) (.ite (.cmp .leq (.bin .sub .i64 (.bin .mul .i64 (.op .sub (.app 22 [(.var 0), (.var 1), (.var 2), (.var 3)]) (.app 21 [(.var 0), (.var 1), (.var 2), (.var 3)])) (.var 3)) (.bin .mul .i64 (.bin .sub .i64 (.var 2) (.var 1)) (.lit 65536))) (.op .sub (.lit 0) (.var 3))) (.leaf (.bool (.lit false))) (.ite (.cmp .geq (.bin .sub .i64 (.bin .mul .i64 (.op .sub (.app 22 [(.var 0), (.var 1), (.var 2), (.var 3)]) (.app 22 [(.var 0), (.var 1), (.var 2), (.var 3)])) (.var 3)) (.bin .mul .i64 (.bin .sub .i64 (.var 2) (.var 2)) (.lit 65536))) (.var 3)) (.leaf (.bool (.lit false))) (.ite (.cmp .leq (.bin .sub .i64 (.bin .mul .i64 (.op .sub (.app 22 [(.var 0), (.var 1), (.var 2), (.var 3)]) (.app 22 [(.var 0), (.var 1), (.var 2), (.var 3)])) (.var 3)) (.bin .mul .i64 (.bin .sub .i64 (.var 2) (.var 2)) (.lit 65536))) (.op .sub (.lit 0) (.var 3))) (.leaf (.bool (.lit false))) (.leaf (.bool (.lit true))))))))))))))))))))) (.leaf (.bool (.lit true)))))))
set_option maxRecDepth 100000 in
theorem tree_vt : (Go.SX.run (Go.SX.callT Try.prog X 100000 6 (Go.SX.shArgs sh 0 0) (Go.SX.shCtx sh [] 0)) (Go.SX.shSt sh)).vt = vt := by kernel_rfl
open Go.SX in
theorem main (pv : List Go.SX.PV) (w : World) (hw : Go.SX.pvAll w sh pv) : vt.holds (Go.SX.envOf (Go.SX.pvNums pv) (Go.SX.withRows fn0 sh pv)) fun v => Go.SX.yes (Go.SX.envOf (Go.SX.pvNums pv) (Go.SX.withRows fn0 sh pv)) v := by
  obtain ⟨p0, _, rfl, g0, p1, _, rfl, g1, e⟩ := hw
  rw [show _ = ([] : List PV) from e]
  obtain ⟨xs0, rfl, w0⟩ := flatS g0
  obtain ⟨a, b, c, rfl, ha, hb, hc⟩ := wfI3 w0
  obtain ⟨xs1, rfl, w1⟩ := flatS g1
  obtain ⟨u, rfl, hu⟩ := wfI1 w1
  have hfn : DR.GoodF (withRows fn0 sh [.flat [a, b, c], .flat [u]]) := fun k a h => withRows_low h
  generalize withRows fn0 sh [.flat [a, b, c], .flat [u]] = fn at hfn
  show vt.holds (envOf [a, b, c, u] fn) fun v => yes (envOf [a, b, c, u] fn) v
  simp only [vt, VT.holds, yesLit, eqbF, eqbT, tstB, gtrB, den_lit, den_var, den_ite, den_cmp, den_cmpB, den_tst, den_tstF, den_negT, den_negF, den_andT, den_andF, lssT, leqT, gtrT, geqT, eqlT, neqT, lssF, leqF, gtrF, geqF, eqlF, neqF, den_app, den_nilL, den_consL, den_add, den_sub, den_mul, den_tdiv, den_tmod, den_mx, den_mn, den_blit, den_bin, binI, env_v, env_f, List.flatten_cons, List.flatten_nil, List.append_nil, List.cons_append, List.nil_append, List.getD_cons_zero, List.getD_cons_succ, List.getD_nil, DR.q20 hfn, DR.q21 hfn, DR.q22 hfn, DR.q23 hfn, DR.q24 hfn]
  clear w0 w1 g0 g1 hfn ha hb hc hu
  by_cases hk : DR.okD a b c u
  case neg =>
    simp only [DR.dutE, if_neg hk]
    exact ⟨fun _ => ⟨fun _ => trivial, fun h => absurd rfl h⟩, fun h => absurd h (by decide)⟩
  simp only [DR.dutA, DR.dutB, DR.dutC, DR.dutT, DR.dutE, if_pos hk]
  refine ⟨fun h => absurd rfl h, fun _ => ?_⟩
  obtain ⟨⟨oa, ob, oc⟩, ou⟩ := hk
  simp only [DR.isB, DR.isU] at oa ob oc ou
  have S := dutV_sum (a := a) (b := b) (c := c) ou.1
  have dA := dut_bd a a b c u
  have dB := dut_bd b a b c u
  have dC := dut_bd c a b c u
  have D00 : ¬ DR.wide a b c > u → _ := fun h => dutV_diff (x := a) (y := a) (a := a) (b := b) (c := c) ou.1 h (by omega) (by omega) (by omega) (by omega)
  have D01 : ¬ DR.wide a b c > u → _ := fun h => dutV_diff (x := a) (y := b) (a := a) (b := b) (c := c) ou.1 h (by omega) (by omega) (by omega) (by omega)
  have D02 : ¬ DR.wide a b c > u → _ := fun h => dutV_diff (x := a) (y := c) (a := a) (b := b) (c := c) ou.1 h (by omega) (by omega) (by omega) (by omega)
  have D10 : ¬ DR.wide a b c > u → _ := fun h => dutV_diff (x := b) (y := a) (a := a) (b := b) (c := c) ou.1 h (by omega) (by omega) (by omega) (by omega)
  have D11 : ¬ DR.wide a b c > u → _ := fun h => dutV_diff (x := b) (y := b) (a := a) (b := b) (c := c) ou.1 h (by omega) (by omega) (by omega) (by omega)
  have D12 : ¬ DR.wide a b c > u → _ := fun h => dutV_diff (x := b) (y := c) (a := a) (b := b) (c := c) ou.1 h (by omega) (by omega) (by omega) (by omega)
  have D20 : ¬ DR.wide a b c > u → _ := fun h => dutV_diff (x := c) (y := a) (a := a) (b := b) (c := c) ou.1 h (by omega) (by omega) (by omega) (by omega)
  have D21 : ¬ DR.wide a b c > u → _ := fun h => dutV_diff (x := c) (y := b) (a := a) (b := b) (c := c) ou.1 h (by omega) (by omega) (by omega) (by omega)
  have D22 : ¬ DR.wide a b c > u → _ := fun h => dutV_diff (x := c) (y := c) (a := a) (b := b) (c := c) ou.1 h (by omega) (by omega) (by omega) (by omega)
  rw [wrap_i64 (n := max (max a b) c - min (min a b) c) (by omega) (by omega)]
  rw [show max (max a b) c - min (min a b) c = DR.wide a b c from rfl]
  generalize DR.dutV a a b c u = A at *
  generalize DR.dutV b a b c u = B at *
  generalize DR.dutV c a b c u = C at *
  generalize max (max A B) C + min (min A B) C = s at *
  have P00 := prod_bd (x := A - A) (u := u) (by omega) (by omega) ou.1 ou.2
  rw [wrap_i64 (n := a - a) (by omega) (by omega), wrap_i64 (n := (a - a) * 65536) (by omega) (by omega), wrap_i64 (n := (A - A) * u) (by omega) (by omega), wrap_i64 (n := (A - A) * u - (a - a) * 65536) (by omega) (by omega)]
  have P01 := prod_bd (x := A - B) (u := u) (by omega) (by omega) ou.1 ou.2
  rw [wrap_i64 (n := a - b) (by omega) (by omega), wrap_i64 (n := (a - b) * 65536) (by omega) (by omega), wrap_i64 (n := (A - B) * u) (by omega) (by omega), wrap_i64 (n := (A - B) * u - (a - b) * 65536) (by omega) (by omega)]
  have P02 := prod_bd (x := A - C) (u := u) (by omega) (by omega) ou.1 ou.2
  rw [wrap_i64 (n := a - c) (by omega) (by omega), wrap_i64 (n := (a - c) * 65536) (by omega) (by omega), wrap_i64 (n := (A - C) * u) (by omega) (by omega), wrap_i64 (n := (A - C) * u - (a - c) * 65536) (by omega) (by omega)]
  have P10 := prod_bd (x := B - A) (u := u) (by omega) (by omega) ou.1 ou.2
  rw [wrap_i64 (n := b - a) (by omega) (by omega), wrap_i64 (n := (b - a) * 65536) (by omega) (by omega), wrap_i64 (n := (B - A) * u) (by omega) (by omega), wrap_i64 (n := (B - A) * u - (b - a) * 65536) (by omega) (by omega)]
  have P11 := prod_bd (x := B - B) (u := u) (by omega) (by omega) ou.1 ou.2
  rw [wrap_i64 (n := b - b) (by omega) (by omega), wrap_i64 (n := (b - b) * 65536) (by omega) (by omega), wrap_i64 (n := (B - B) * u) (by omega) (by omega), wrap_i64 (n := (B - B) * u - (b - b) * 65536) (by omega) (by omega)]
  have P12 := prod_bd (x := B - C) (u := u) (by omega) (by omega) ou.1 ou.2
  rw [wrap_i64 (n := b - c) (by omega) (by omega), wrap_i64 (n := (b - c) * 65536) (by omega) (by omega), wrap_i64 (n := (B - C) * u) (by omega) (by omega), wrap_i64 (n := (B - C) * u - (b - c) * 65536) (by omega) (by omega)]
  have P20 := prod_bd (x := C - A) (u := u) (by omega) (by omega) ou.1 ou.2
  rw [wrap_i64 (n := c - a) (by omega) (by omega), wrap_i64 (n := (c - a) * 65536) (by omega) (by omega), wrap_i64 (n := (C - A) * u) (by omega) (by omega), wrap_i64 (n := (C - A) * u - (c - a) * 65536) (by omega) (by omega)]
  have P21 := prod_bd (x := C - B) (u := u) (by omega) (by omega) ou.1 ou.2
  rw [wrap_i64 (n := c - b) (by omega) (by omega), wrap_i64 (n := (c - b) * 65536) (by omega) (by omega), wrap_i64 (n := (C - B) * u) (by omega) (by omega), wrap_i64 (n := (C - B) * u - (c - b) * 65536) (by omega) (by omega)]
  have P22 := prod_bd (x := C - C) (u := u) (by omega) (by omega) ou.1 ou.2
  rw [wrap_i64 (n := c - c) (by omega) (by omega), wrap_i64 (n := (c - c) * 65536) (by omega) (by omega), wrap_i64 (n := (C - C) * u) (by omega) (by omega), wrap_i64 (n := (C - C) * u - (c - c) * 65536) (by omega) (by omega)]
  generalize (A - A) * u = Z00 at *
  generalize (A - B) * u = Z01 at *
  generalize (A - C) * u = Z02 at *
  generalize (B - A) * u = Z10 at *
  generalize (B - B) * u = Z11 at *
  generalize (B - C) * u = Z12 at *
  generalize (C - A) * u = Z20 at *
  generalize (C - B) * u = Z21 at *
  generalize (C - C) * u = Z22 at *
  by_cases hc : DR.wide a b c > u
  · simp only [if_pos hc, hc]
    clear D00 D01 D02 D10 D11 D12 D20 D21 D22
    simp
    omega
  · have hn := hc
    simp only [if_neg hc]
    have E00 := D00 hc; have E01 := D01 hc; have E02 := D02 hc; have E10 := D10 hc; have E11 := D11 hc; have E12 := D12 hc; have E20 := D20 hc; have E21 := D21 hc; have E22 := D22 hc
    clear D00 D01 D02 D10 D11 D12 D20 D21 D22
    simp only [hc]
    simp
    clear hn hc
    clear P00 P01 P02 P10 P11 P12 P20 P21 P22 dA dB dC
    repeat' (first | apply And.intro | intro _)
    all_goals first | trivial | omega

theorem walkAll (pv : List Go.SX.PV) (w : World) (hw : Go.SX.pvAll w sh pv) : Calls Try.prog 6 (Go.SX.pvVals sh pv).toArray w fun e w' => e = .returned (.bool true) ∧ Below w.heap.size w w' :=
  Go.SX.calls_rows (fn := Go.SX.withRows fn0 sh pv) mix (XOK _ fun k a h => Go.SX.withRows_low h) hw (Go.SX.withRows_rows (by rfl)) (by simp) tree_vt (main pv w hw)
theorem walk (w : World) (xs0 : List Int) (xs1 : List Int) (w0 : Go.SX.wfL ks0 xs0) (w1 : Go.SX.wfL ks1 xs1) :
    Calls Try.prog 6 #[.agg (Go.SX.valsL ks0 xs0).toArray, (Go.SX.valsL ks1 xs1).getD 0 undef] w fun e w' => e = .returned (.bool true) ∧ Below w.heap.size w w' :=
  walkAll [.flat xs0, .flat xs1] w ⟨_, _, rfl, ⟨w0, (fun h => by cases h)⟩, ⟨_, _, rfl, ⟨w1, (fun _ => rfl)⟩, rfl⟩⟩

set_option maxRecDepth 100000 in
theorem lifted (os : Os) (started : os.Started) (H : Type) (enc : TypeId × Value → H) :
    ReturnsInHanded {} Try.checked os 6 .any (Rows.driveDutiesSpec.pre6 enc Try.prog Try.f6 Rows.driveDutiesRow.domain false) (Rows.driveDutiesSpec.post enc Try.prog Try.f6 false true false false) := by
  refine returnsInHanded_of_change (C := Try.checked) own started (by kernel_rfl) Try.func6
    (ChangeSpec.witness6 (enc := enc) (C := Try.checked) false ⟨#[], #[.agg #[.int .i64 0, .int .i64 0, .int .i64 0], .int .i64 0], []⟩ 8 (by kernel_rfl) (by kernel_rfl) (by kernel_rfl) (by kernel_rfl)) ?_
  intro W base args ds gs before hval0 hW hcnd _
  have hval : ∀ (j : Nat) t v, Try.f6.params[j]? = some t → args[j]? = some v → Value.okWide Try.prog W .any base t v := hval0
  have hW' := hW
  obtain ⟨p, q, hA0, hV, rfl, hfz, hnd⟩ := hW
  have hA : DataW.TrodAll enc Try.prog W 0 (fun _ => true) true Try.f6.params.toList args.toList ds p := hA0
  rw [Try.params6] at hA hval
  obtain ⟨v0, vs0, d0, ds0, p0, q0, hargs, rfl, rfl, h0, r0⟩ := trodAll_cons hA
  obtain ⟨v1, vs1, d1, ds1, p1, q1, rfl, rfl, rfl, h1, r1⟩ := trodAll_cons r0
  obtain ⟨rfl, rfl, rfl⟩ := trodAll_nil r1
  obtain rfl : args = #[v0, v1] := by cases args; simp_all
  obtain ⟨rfl, rfl⟩ := trodVars_none hV
  have k0 := h0
  have lt0 : ∀ x ∈ p0, x.block < W.heap.size := by obtain ⟨m, hm⟩ := k0; exact DataW.trod_lt m _ _ _ hm
  obtain ⟨xs0, rfl, w0⟩ := Go.SX.open_flatA Try.underlying27 40 (ks := ks0) (by kernel_rfl) (by kernel_rfl) (hval 0 27 v0 rfl rfl) h0
  have k1 := h1
  have lt1 : ∀ x ∈ p1, x.block < W.heap.size := by obtain ⟨m, hm⟩ := k1; exact DataW.trod_lt m _ _ _ hm
  obtain ⟨xs1, rfl, w1⟩ := Go.SX.open_flat1 (k := some .i64) Try.underlying2 (hval 1 2 v1 rfl rfl) h1
  clear hA0 hval0
  refine (walk W xs0 xs1 w0 w1).mono fun e W' ⟨he, bel⟩ => ?_
  subst he
  exact ⟨_, rfl, _, _, _, [], _, [], hW', trodAll_mk1 (shut_bool Try.underlying4 _), (trodAll_cons_mk (Below.trod laidOut (by kernel_rfl) (of_decide_eq_true (by kernel_rfl)) k0 bel lt0) (trodAll_cons_mk (Below.trod laidOut (by kernel_rfl) (of_decide_eq_true (by kernel_rfl)) k1 bel lt1) trodAll_mk0)), rfl, bel.frame _, fun h => by cases h⟩

theorem over : Rows.driveDutiesRow.holds Try.pinned (OpenSpec.ofChange Rows.driveDutiesSpec) :=
  OpenClaim.holds_of_wide 6 Try.f6 rfl rfl rfl rfl rfl rfl rfl ⟨rfl, rfl, rfl, rfl, rfl⟩ rfl rfl rfl rfl rfl (by kernel_rfl) Try.func6 (by kernel_rfl)
    (of_decide_eq_true (by kernel_rfl)) (by unfold Func.isWrapper; first | (rw [if_pos (by decide +kernel)]; kernel_rfl) | (rw [if_neg (by decide +kernel)]; exact ⟨rfl, rfl⟩))
    (fun os started H enc _ => lifted os started H enc)

/-- THE STATEMENT -/
theorem proved : Rows.DriveDutiesSaid := over
#print axioms proved
end Go.Proofs.Ytmcnbgngojgfcaa.driveDuties
