/- The law DriveRegulates answers true for every input: the voltage and the sum of a regulator are those of the definition, or refused; the voltage is in the span, and the sum does not grow farther out; no condition beyond the row's own. The call is reckoned in a store of named blocks (the texts Sw1 to Sw28), in every order that the model may draw. -/
import Derived.Test.YtmcnbgngojgfcaaRows
import Derived.WalkKit
import Derived.ProofKit
import Derived.OpenShut
import Derived.Below
import Derived.ChangeOld
import Derived.Test.YtmcnbgngojgfcaaSw30
import Derived.Test.YtmcnbgngojgfcaaDr
namespace Go.Proofs.Ytmcnbgngojgfcaa.driveRegulates
open Go.ChangeShapes Go.WideShapes Go.ChangeAt Go.RowKit
set_option linter.unusedVariables false
set_option linter.unusedSimpArgs false

theorem own : ownKnob Try.prog.godebug = none := by kernel_rfl
theorem laidOut : laidOutB Try.prog = true := by kernel_rfl
theorem mix : Try.prog.follows .mixedOrders = true := by kernel_rfl
def ks0 : List (Option IntKind) := [some .i64, some .i64]
def ks1 : List (Option IntKind) := [some .i64]
def ks2 : List (Option IntKind) := [some .i64]
def ks3 : List (Option IntKind) := [some .i64, some .i64]
def sh : List Go.SX.PSh := [.flat true ks0, .flat false ks1, .flat false ks2, .flat true ks3]
open Go.SX
theorem yesLit (env : Env) (b : Bool) : yes env (.bool (.lit b)) = (b = true) := rfl
noncomputable def fn0 : Nat → List Int → Int := Go.SX.rowed (DR.dfn)
def X : Go.SX.Par := Xr
theorem XOK : ∀ fn, (∀ k a, k < 5000 → fn k a = fn0 k a) → Go.SX.ParOK Try.prog fn X := fun fn h => Xr_ok (fn := fn) h
def vt : Go.SX.VT := (.ite (.cmp .neq (.app 32 [(.var 0), (.var 1), (.var 2), (.var 3), (.var 4), (.var 5)]) (.lit 0)) (.leaf (.bool (.lit true))) (.ite (.cmp .lss (.op .tmod (.bin .mul .i64 (.var 0) (.var 3)) (.lit 65536)) (.lit 0)) (.ite (.cmp .geq (.app 30 [(.var 0), (.var 1), (.var 2), (.var 3), (.var 4), (.var 5)]) (.var 4)) (.ite (.cmp .leq (.app 30 [(.var 0), (.var 1), (.var 2), (.var 3), (.var 4), (.var 5)]) (.var 5)) (.ite (.cmp .geq (.app 31 [(.var 0), (.var 1), (.var 2), (.var 3), (.var 4), (.var 5)]) (.lit (-1073741824))) (.ite (.cmp .leq (.app 31 [(.var 0), (.var 1), (.var 2), (.var 3), (.var 4), (.var 5)]) (.lit 1073741824)) (.ite (.cmp .leq (.bin .add .i64 (.op .sub (.op .tdiv (.bin .mul .i64 (.var 0) (.var 3)) (.lit 65536)) (.lit 1)) (.var 2)) (.var 5)) (.ite (.cmp .geq (.bin .add .i64 (.op .sub (.op .tdiv (.bin .mul .i64 (.var 0) (.var 3)) (.lit 65536)) (.lit 1)) (.var 2)) (.var 4)) (.leaf (.bool (.lit true))) (.ite (.cmp .geq (.app 31 [(.var 0), (.var 1), (.var 2), (.var 3), (.var 4), (.var 5)]) (.var 2)) (.leaf (.bool (.lit true))) (.leaf (.bool (.lit false))))) (.ite (.cmp .leq (.app 31 [(.var 0), (.var 1), (.var 2), (.var 3), (.var 4), (.var 5)]) (.var 2)) (.ite (.cmp .geq (.bin .add .i64 (.op .sub (.op .tdiv (.bin .mul .i64 (.var 0) (.var 3)) (.lit 65536)) (.lit 1)) (.var 2)) (.var 4)) (.leaf (.bool (.lit true))) (.ite (.cmp .geq (.app 31 [(.var 0), (.var 1), (.var 2), (.var 3), (.var 4), (.var 5)]) (.var 2)) (.leaf (.bool (.lit true))) (.leaf (.bool (.lit false))))) (.leaf (.bool (.lit false))))) (.leaf (.bool (.lit false)))) (.leaf (.bool (.lit false)))) (.leaf (.bool (.lit false)))) (.leaf (.bool (.lit false)))) (.ite (.cmp .geq (.app 30 [(.var 0), (.var 1), (.var 2), (.var 3), (.var 4), (.var 5)]) (.var 4)) (.ite (.cmp .leq (.app 30 [(.var 0), (.var 1), (.var 2), (.var 3), (.var 4), (.var 5)]) (.var 5)) (.ite (.cmp .geq (.app 31 [(.var 0), (.var 1), (.var 2), (.var 3), (.var 4), (.var 5)]) (.lit (-1073741824))) (.ite (.cmp .leq (.app 31 [(.var 0), (.var 1), (.var 2), (.var 3), (.var 4), (.var 5)]) (.lit 1073741824)) (.ite (.cmp .leq (.bin .add .i64 (.op .tdiv (.bin .mul .i64 (.var 0) (.var 3)) (.lit 65536)) (.var 2)) (.var 5)) (.ite (.cmp .geq (.bin .add .i64 (.op .tdiv (.bin .mul .i64 (.var 0) (.var 3)) (.lit 65536)) (.var 2)) (.var 4)) (.leaf (.bool (.lit true))) (.ite (.cmp .geq (.app 31 [(.var 0), (.var 1), (.var 2), (.var 3), (.var 4), (.var 5)]) (.var 2)) (.leaf (.bool (.lit true))) (.leaf (.bool (.lit false))))) (.ite (.cmp .leq (.app 31 [(.var 0), (.var 1), (.var 2), (.var 3), (.var 4), (.var 5)]) (.var 2)) (.ite (.cmp .geq (.bin .add .i64 (.op .tdiv (.bin .mul .i64 (.var 0) (.var 3)) (.lit 65536)) (.var 2)) (.var 4)) (.leaf (.bool (.lit true))) (.ite (.cmp .geq (.app 31 [(.var 0), (.var 1), (.var 2), (.var 3), (.var 4), (.var 5)]) (.var 2)) (.leaf (.bool (.lit true))) (.leaf (.bool (.lit false))))) (.leaf (.bool (.lit false))))) (.leaf (.bool (.lit false)))) (.leaf (.bool (.lit false)))) (.leaf (.bool (.lit false)))) (.leaf (.bool (.lit false))))))
set_option maxRecDepth 100000 in
theorem tree_vt : (Go.SX.run (Go.SX.callT Try.prog X 100000 4 (Go.SX.shArgs sh 0 0) (Go.SX.shCtx sh [] 0)) (Go.SX.shSt sh)).vt = vt := by kernel_rfl
open Go.SX in
theorem main (pv : List Go.SX.PV) (w : World) (hw : Go.SX.pvAll w sh pv) : vt.holds (Go.SX.envOf (Go.SX.pvNums pv) (Go.SX.withRows fn0 sh pv)) fun v => Go.SX.yes (Go.SX.envOf (Go.SX.pvNums pv) (Go.SX.withRows fn0 sh pv)) v := by
  obtain ⟨p0, _, rfl, g0, p1, _, rfl, g1, p2, _, rfl, g2, p3, _, rfl, g3, e⟩ := hw
  rw [show _ = ([] : List PV) from e]
  obtain ⟨xs0, rfl, w0⟩ := flatS g0
  obtain ⟨p, j, rfl, hp, hj⟩ := wfI2 w0
  obtain ⟨xs1, rfl, w1⟩ := flatS g1
  obtain ⟨s, rfl, hs⟩ := wfI1 w1
  obtain ⟨xs2, rfl, w2⟩ := flatS g2
  obtain ⟨x, rfl, hx⟩ := wfI1 w2
  obtain ⟨xs3, rfl, w3⟩ := flatS g3
  obtain ⟨l, m, rfl, hl, hm⟩ := wfI2 w3
  have hfn : DR.GoodF (withRows fn0 sh [.flat [p, j], .flat [s], .flat [x], .flat [l, m]]) := fun k a h => withRows_low h
  generalize withRows fn0 sh [.flat [p, j], .flat [s], .flat [x], .flat [l, m]] = fn at hfn
  show vt.holds (envOf [p, j, s, x, l, m] fn) fun v => yes (envOf [p, j, s, x, l, m] fn) v
  simp only [vt, VT.holds, yesLit, den_lit, den_var, den_ite, den_cmp, den_cmpB, den_tst, den_tstF, den_negT, den_negF, den_andT, den_andF, lssT, leqT, gtrT, geqT, eqlT, neqT, lssF, leqF, gtrF, geqF, eqlF, neqF, den_app, den_nilL, den_consL, den_add, den_sub, den_mul, den_tdiv, den_tmod, den_mx, den_mn, den_blit, den_bin, binI, env_v, env_f, List.flatten_cons, List.flatten_nil, List.append_nil, List.cons_append, List.nil_append, List.getD_cons_zero, List.getD_cons_succ, List.getD_nil, DR.q30 hfn, DR.q31 hfn, DR.q32 hfn]
  clear w0 w1 w2 w3 g0 g1 g2 g3 hfn hp hj hs hx hl hm
  by_cases hG : DR.okG p j l m
  case neg =>
    simp only [DR.regE, hG, if_false]
    exact ⟨fun _ => trivial, fun h => absurd h (by decide)⟩
  by_cases hX : DR.okX s x
  case neg =>
    simp only [DR.regE, hG, hX, if_false, if_true]
    exact ⟨fun _ => trivial, fun h => absurd h (by decide)⟩
  simp only [DR.regV, DR.regS, DR.regE, hG, hX, and_self, if_true]
  refine ⟨fun h => absurd rfl h, fun _ => ?_⟩
  simp only [DR.okX, DR.isB] at hX
  simp only [DR.okG, DR.isQ] at hG
  have m1 := box_mul hG.1.1.1 hG.1.1.2 hX.2.1 hX.2.2
  have m2 := box_mul hG.1.2.1 hG.1.2.2 hX.2.1 hX.2.2
  rw [wrap_i64 (n := p * x) (by omega) (by omega)]
  have f := DR.go_fl (n := p * x) (d := 65536) (by omega)
  have s1 : 0 < x → 0 ≤ j * x / 65536 := fun h => Int.ediv_nonneg (Int.mul_nonneg hG.1.2.1 (by omega)) (by omega)
  have s2 : x < 0 → j * x / 65536 ≤ 0 := fun h => by
    have := Int.mul_le_mul_of_nonneg_left (show x ≤ 0 by omega) hG.1.2.1
    have := Int.ediv_le_ediv (c := 65536) (by omega) this
    omega
  have b1 : -1099511627776 ≤ p * x / 65536 ∧ p * x / 65536 ≤ 1099511627776 := by omega
  generalize p * x / 65536 = R at *
  generalize j * x / 65536 = J at *
  generalize (p * x).tdiv 65536 = Q at *
  generalize (p * x).tmod 65536 = M at *
  clear m1 m2
  refine ⟨fun ht => ?_, fun ht => ?_⟩
  · rw [if_pos ht] at f
    rw [f, wrap_i64 (n := R + s) (by omega) (by omega)]
    unfold DR.br DR.growsR
    clear f ht
    repeat' (first | apply And.intro | intro _)
    all_goals first | trivial | omega | (split at * <;> omega)
  · rw [if_neg (by omega)] at f
    rw [f, wrap_i64 (n := R + s) (by omega) (by omega)]
    unfold DR.br DR.growsR
    clear f ht
    repeat' (first | apply And.intro | intro _)
    all_goals first | trivial | omega | (split at * <;> omega)

theorem walkAll (pv : List Go.SX.PV) (w : World) (hw : Go.SX.pvAll w sh pv) : Calls Try.prog 4 (Go.SX.pvVals sh pv).toArray w fun e w' => e = .returned (.bool true) ∧ Below w.heap.size w w' :=
  Go.SX.calls_rows (fn := Go.SX.withRows fn0 sh pv) mix (XOK _ fun k a h => Go.SX.withRows_low h) hw (Go.SX.withRows_rows (by rfl)) (by simp) tree_vt (main pv w hw)
theorem walk (w : World) (xs0 : List Int) (xs1 : List Int) (xs2 : List Int) (xs3 : List Int) (w0 : Go.SX.wfL ks0 xs0) (w1 : Go.SX.wfL ks1 xs1) (w2 : Go.SX.wfL ks2 xs2) (w3 : Go.SX.wfL ks3 xs3) :
    Calls Try.prog 4 #[.agg (Go.SX.valsL ks0 xs0).toArray, (Go.SX.valsL ks1 xs1).getD 0 undef, (Go.SX.valsL ks2 xs2).getD 0 undef, .agg (Go.SX.valsL ks3 xs3).toArray] w fun e w' => e = .returned (.bool true) ∧ Below w.heap.size w w' :=
  walkAll [.flat xs0, .flat xs1, .flat xs2, .flat xs3] w ⟨_, _, rfl, ⟨w0, (fun h => by cases h)⟩, ⟨_, _, rfl, ⟨w1, (fun _ => rfl)⟩, ⟨_, _, rfl, ⟨w2, (fun _ => rfl)⟩, ⟨_, _, rfl, ⟨w3, (fun h => by cases h)⟩, rfl⟩⟩⟩⟩

set_option maxRecDepth 100000 in
theorem lifted (os : Os) (started : os.Started) (H : Type) (enc : TypeId × Value → H) :
    ReturnsInHanded {} Try.checked os 4 .any (Rows.driveRegulatesSpec.pre6 enc Try.prog Try.f4 Rows.driveRegulatesRow.domain false) (Rows.driveRegulatesSpec.post enc Try.prog Try.f4 false true false false) := by
  refine returnsInHanded_of_change (C := Try.checked) own started (by kernel_rfl) Try.func4
    (ChangeSpec.witness6 (enc := enc) (C := Try.checked) false ⟨#[], #[.agg #[.int .i64 0, .int .i64 0], .int .i64 0, .int .i64 0, .agg #[.int .i64 0, .int .i64 0]], []⟩ 8 (by kernel_rfl) (by kernel_rfl) (by kernel_rfl) (by kernel_rfl)) ?_
  intro W base args ds gs before hval0 hW hcnd _
  have hval : ∀ (j : Nat) t v, Try.f4.params[j]? = some t → args[j]? = some v → Value.okWide Try.prog W .any base t v := hval0
  have hW' := hW
  obtain ⟨p, q, hA0, hV, rfl, hfz, hnd⟩ := hW
  have hA : DataW.TrodAll enc Try.prog W 0 (fun _ => true) true Try.f4.params.toList args.toList ds p := hA0
  rw [Try.params4] at hA hval
  obtain ⟨v0, vs0, d0, ds0, p0, q0, hargs, rfl, rfl, h0, r0⟩ := trodAll_cons hA
  obtain ⟨v1, vs1, d1, ds1, p1, q1, rfl, rfl, rfl, h1, r1⟩ := trodAll_cons r0
  obtain ⟨v2, vs2, d2, ds2, p2, q2, rfl, rfl, rfl, h2, r2⟩ := trodAll_cons r1
  obtain ⟨v3, vs3, d3, ds3, p3, q3, rfl, rfl, rfl, h3, r3⟩ := trodAll_cons r2
  obtain ⟨rfl, rfl, rfl⟩ := trodAll_nil r3
  obtain rfl : args = #[v0, v1, v2, v3] := by cases args; simp_all
  obtain ⟨rfl, rfl⟩ := trodVars_none hV
  have k0 := h0
  have lt0 : ∀ x ∈ p0, x.block < W.heap.size := by obtain ⟨m, hm⟩ := k0; exact DataW.trod_lt m _ _ _ hm
  obtain ⟨xs0, rfl, w0⟩ := Go.SX.open_flat Try.underlying35 40 (ks := ks0) (by kernel_rfl) (by kernel_rfl) (hval 0 35 v0 rfl rfl) h0
  have k1 := h1
  have lt1 : ∀ x ∈ p1, x.block < W.heap.size := by obtain ⟨m, hm⟩ := k1; exact DataW.trod_lt m _ _ _ hm
  obtain ⟨xs1, rfl, w1⟩ := Go.SX.open_flat1 (k := some .i64) Try.underlying2 (hval 1 2 v1 rfl rfl) h1
  have k2 := h2
  have lt2 : ∀ x ∈ p2, x.block < W.heap.size := by obtain ⟨m, hm⟩ := k2; exact DataW.trod_lt m _ _ _ hm
  obtain ⟨xs2, rfl, w2⟩ := Go.SX.open_flat1 (k := some .i64) Try.underlying2 (hval 2 2 v2 rfl rfl) h2
  have k3 := h3
  have lt3 : ∀ x ∈ p3, x.block < W.heap.size := by obtain ⟨m, hm⟩ := k3; exact DataW.trod_lt m _ _ _ hm
  obtain ⟨xs3, rfl, w3⟩ := Go.SX.open_flat Try.underlying37 40 (ks := ks3) (by kernel_rfl) (by kernel_rfl) (hval 3 37 v3 rfl rfl) h3
  clear hA0 hval0
  refine (walk W xs0 xs1 xs2 xs3 w0 w1 w2 w3).mono fun e W' ⟨he, bel⟩ => ?_
  subst he
  exact ⟨_, rfl, _, _, _, [], _, [], hW', trodAll_mk1 (shut_bool Try.underlying4 _), (trodAll_cons_mk (Below.trod laidOut (by kernel_rfl) (of_decide_eq_true (by kernel_rfl)) k0 bel lt0) (trodAll_cons_mk (Below.trod laidOut (by kernel_rfl) (of_decide_eq_true (by kernel_rfl)) k1 bel lt1) (trodAll_cons_mk (Below.trod laidOut (by kernel_rfl) (of_decide_eq_true (by kernel_rfl)) k2 bel lt2) (trodAll_cons_mk (Below.trod laidOut (by kernel_rfl) (of_decide_eq_true (by kernel_rfl)) k3 bel lt3) trodAll_mk0)))), rfl, bel.frame _, fun h => by cases h⟩

theorem over : Rows.driveRegulatesRow.holds Try.pinned (OpenSpec.ofChange Rows.driveRegulatesSpec) :=
  OpenClaim.holds_of_wide 4 Try.f4 rfl rfl rfl rfl rfl rfl rfl ⟨rfl, rfl, rfl, rfl, rfl⟩ rfl rfl rfl rfl rfl (by kernel_rfl) Try.func4 (by kernel_rfl)
    (of_decide_eq_true (by kernel_rfl)) (by unfold Func.isWrapper; first | (rw [if_pos (by decide +kernel)]; kernel_rfl) | (rw [if_neg (by decide +kernel)]; exact ⟨rfl, rfl⟩))
    (fun os started H enc _ => lifted os started H enc)

/-- THE STATEMENT -/
theorem proved : Rows.DriveRegulatesSaid := over
#print axioms proved
end Go.Proofs.Ytmcnbgngojgfcaa.driveRegulates
