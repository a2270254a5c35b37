/- The law DriveMotors answers true for every input: whether a motor is valid, its torque, inner voltages and next state, and the motor with offsets, are those of the definitions, or refused; no condition beyond the row's own. The call is reckoned in a store of named blocks (the texts Sw1 to Sw28), in every order that the model may draw. -/
import Derived.Test.YtkibmcpegafdoaaRows
import Derived.WalkKit
import Derived.ProofKit
import Derived.OpenShut
import Derived.Below
import Derived.ChangeOld
import Derived.Test.YtkibmcpegafdoaaSw30
import Derived.Test.YtkibmcpegafdoaaMa
namespace Go.Proofs.Ytkibmcpegafdoaa.driveMotors
open Go.ChangeShapes Go.WideShapes Go.ChangeAt Go.RowKit
set_option linter.unusedVariables false
set_option linter.unusedSimpArgs false

theorem own : ownKnob Try.prog.godebug = none := by kernel_rfl
theorem laidOut : laidOutB Try.prog = true := by kernel_rfl
theorem mix : Try.prog.follows .mixedOrders = true := by kernel_rfl
def ks0 : List (Option IntKind) := [some .i64, some .i64, some .i64, some .i64, some .i64, some .i64, some .i64, some .i64, some .i64, some .i64]
def ks1 : List (Option IntKind) := [some .i64, some .i64, some .i64, some .i64]
def ks2 : List (Option IntKind) := [some .i64]
def ks3 : List (Option IntKind) := [some .i64]
def ks4 : List (Option IntKind) := [some .i64]
def ks5 : List (Option IntKind) := [some .i64]
def sh : List Go.SX.PSh := [.flat true ks0, .flat true ks1, .flat false ks2, .flat false ks3, .flat false ks4, .row ks5]
open Go.SX
theorem yesLit (env : Env) (b : Bool) : yes env (.bool (.lit b)) = (b = true) := rfl
noncomputable def fn0 : Nat → List Int → Int := Go.SX.rowed (mfn)
def X : Go.SX.Par := Xm
theorem XOK : ∀ fn, (∀ k a, k < 5000 → fn k a = fn0 k a) → Go.SX.ParOK Try.prog fn X := fun fn h => Xm_ok (fn := fn) fun k a hk => h k a (by unfold Go.SX.low at hk; omega)
def vt : Go.SX.VT := (.ite (.cmp .gtr (.var 17) (.lit 20)) (.leaf (.bool (.lit true))) (.ite (.cmp .neq (.app 40 [(.var 0), (.var 1), (.var 2), (.var 3), (.var 4), (.var 5), (.var 6), (.var 7), (.var 8), (.var 9)]) (.lit 0)) (.ite (.cmp .eql (.app 40 [(.var 0), (.var 1), (.var 2), (.var 3), (.var 4), (.var 5), (.var 6), (.var 7), (.var 8), (.var 9)]) (.lit 2)) (.leaf (.bool (.lit true))) (.leaf (.bool (.lit false)))) (.ite (.cmp .neq (.var 17) (.lit 4)) (.leaf (.bool (.lit true))) (.ite (.cmp .leq (.lit (-1099511627776)) (.app 5000 [(.lit 0)])) (.ite (.neg (.cmp .leq (.app 5000 [(.lit 0)]) (.lit 1099511627776))) (.leaf (.bool (.lit true))) (.ite (.cmp .leq (.lit (-1099511627776)) (.app 5000 [(.lit 1)])) (.ite (.neg (.cmp .leq (.app 5000 [(.lit 1)]) (.lit 1099511627776))) (.leaf (.bool (.lit true))) (.ite (.cmp .leq (.lit (-1099511627776)) (.app 5000 [(.lit 2)])) (.ite (.neg (.cmp .leq (.app 5000 [(.lit 2)]) (.lit 1099511627776))) (.leaf (.bool (.lit true))) (.ite (.cmp .leq (.lit (-1099511627776)) (.app 5000 [(.lit 3)])) (.ite (.neg (.cmp .leq (.app 5000 [(.lit 3)]) (.lit 1099511627776))) (.leaf (.bool (.lit true))) (.ite (.cmp .neq (.app 40 [(.bin .add .i64 (.var 0) (.app 5000 [(.lit 0)])), (.bin .add .i64 (.var 1) (.app 5000 [(.lit 1)])), (.bin .add .i64 (.var 2) (.app 5000 [(.lit 2)])), (.bin .add .i64 (.var 3) (.app 5000 [(.lit 3)])), (.var 4), (.var 5), (.var 6), (.var 7), (.var 8), (.var 9)]) (.lit 0)) (.leaf (.bool (.lit true))) (.leaf (.bool (.lit true))))) (.leaf (.bool (.lit true))))) (.leaf (.bool (.lit true))))) (.leaf (.bool (.lit true))))) (.leaf (.bool (.lit true)))))))
set_option maxRecDepth 100000 in
theorem tree_vt : (Go.SX.run (Go.SX.callT Try.prog X 100000 3 (Go.SX.shArgs sh 0 0) (Go.SX.shCtx sh [] 0)) (Go.SX.shSt sh)).vt = vt := by kernel_rfl
open Go.SX in
theorem main (pv : List Go.SX.PV) (w : World) (hw : Go.SX.pvAll w sh pv) : vt.holds (Go.SX.envOf (Go.SX.pvNums pv) (Go.SX.withRows fn0 sh pv)) fun v => Go.SX.yes (Go.SX.envOf (Go.SX.pvNums pv) (Go.SX.withRows fn0 sh pv)) v := by
  have hfn : GoodF (withRows fn0 sh pv) := fun k a hk => withRows_low (by unfold low at hk; omega)
  have c := ck_two hfn (denL (envOf (pvNums pv) (withRows fn0 sh pv)) [.var 0, .var 1, .var 2, .var 3, .var 4, .var 5, .var 6, .var 7, .var 8, .var 9])
  simp only [den_nilL, den_consL, den_var, env_f] at c
  simp only [vt, VT.holds, yesLit, den_lit, den_var, den_ite, den_cmp, den_cmpB, den_tst, den_tstF, den_negT, den_negF, den_andT, den_andF, lssT, leqT, gtrT, geqT, eqlT, neqT, lssF, leqF, gtrF, geqF, eqlF, neqF, den_app, den_nilL, den_consL, den_add, den_sub, den_mul, den_tdiv, den_tmod, den_mx, den_mn, den_blit, den_bin, binI, env_f]
  repeat' (first | apply And.intro | intro _)
  all_goals first | trivial | omega

theorem walkAll (pv : List Go.SX.PV) (w : World) (hw : Go.SX.pvAll w sh pv) : Calls Try.prog 3 (Go.SX.pvVals sh pv).toArray w fun e w' => e = .returned (.bool true) ∧ Below w.heap.size w w' :=
  Go.SX.calls_rows (fn := Go.SX.withRows fn0 sh pv) mix (XOK _ fun k a h => Go.SX.withRows_low h) hw (Go.SX.withRows_rows (by rfl)) (by simp) tree_vt (main pv w hw)
theorem walk (w : World) (xs0 : List Int) (xs1 : List Int) (xs2 : List Int) (xs3 : List Int) (xs4 : List Int) (v5 : Value) (D5 : Go.SX.RowD) (w0 : Go.SX.wfL ks0 xs0) (w1 : Go.SX.wfL ks1 xs1) (w2 : Go.SX.wfL ks2 xs2) (w3 : Go.SX.wfL ks3 xs3) (w4 : Go.SX.wfL ks4 xs4) (l5 : (D5.len : Int) ≤ 9223372036854775807) (w5 : ∃ r o, Go.SX.RowIs w ks5 D5 v5 r o) :
    Calls Try.prog 3 #[.agg (Go.SX.valsL ks0 xs0).toArray, .agg (Go.SX.valsL ks1 xs1).toArray, (Go.SX.valsL ks2 xs2).getD 0 undef, (Go.SX.valsL ks3 xs3).getD 0 undef, (Go.SX.valsL ks4 xs4).getD 0 undef, v5] w fun e w' => e = .returned (.bool true) ∧ Below w.heap.size w w' :=
  walkAll [.flat xs0, .flat xs1, .flat xs2, .flat xs3, .flat xs4, .row D5 v5] w ⟨_, _, rfl, ⟨w0, (fun h => by cases h)⟩, ⟨_, _, rfl, ⟨w1, (fun h => by cases h)⟩, ⟨_, _, rfl, ⟨w2, (fun _ => rfl)⟩, ⟨_, _, rfl, ⟨w3, (fun _ => rfl)⟩, ⟨_, _, rfl, ⟨w4, (fun _ => rfl)⟩, ⟨_, _, rfl, ⟨l5, w5⟩, rfl⟩⟩⟩⟩⟩⟩

set_option maxRecDepth 100000 in
theorem lifted (os : Os) (started : os.Started) (H : Type) (enc : TypeId × Value → H) :
    ReturnsInHanded {} Try.checked os 3 .any (Rows.driveMotorsSpec.pre6 enc Try.prog Try.f3 Rows.driveMotorsRow.domain false) (Rows.driveMotorsSpec.post enc Try.prog Try.f3 false true false false) := by
  refine returnsInHanded_of_change (C := Try.checked) own started (by kernel_rfl) Try.func3
    (ChangeSpec.witness6 (enc := enc) (C := Try.checked) false ⟨#[], #[.agg #[.int .i64 0, .int .i64 0, .int .i64 0, .int .i64 0, .int .i64 0, .int .i64 0, .int .i64 0, .int .i64 0, .int .i64 0, .int .i64 0], .agg #[.int .i64 0, .int .i64 0, .int .i64 0, .int .i64 0], .int .i64 0, .int .i64 0, .int .i64 0, .slice none 0 0], []⟩ 8 (by kernel_rfl) (by kernel_rfl) (by kernel_rfl) (by kernel_rfl)) ?_
  intro W base args ds gs before hval0 hW hcnd _
  have hval : ∀ (j : Nat) t v, Try.f3.params[j]? = some t → args[j]? = some v → Value.okWide Try.prog W .any base t v := hval0
  have hW' := hW
  obtain ⟨p, q, hA0, hV, rfl, hfz, hnd⟩ := hW
  have hA : DataW.TrodAll enc Try.prog W 0 (fun _ => true) true Try.f3.params.toList args.toList ds p := hA0
  rw [Try.params3] at hA hval
  obtain ⟨v0, vs0, d0, ds0, p0, q0, hargs, rfl, rfl, h0, r0⟩ := trodAll_cons hA
  obtain ⟨v1, vs1, d1, ds1, p1, q1, rfl, rfl, rfl, h1, r1⟩ := trodAll_cons r0
  obtain ⟨v2, vs2, d2, ds2, p2, q2, rfl, rfl, rfl, h2, r2⟩ := trodAll_cons r1
  obtain ⟨v3, vs3, d3, ds3, p3, q3, rfl, rfl, rfl, h3, r3⟩ := trodAll_cons r2
  obtain ⟨v4, vs4, d4, ds4, p4, q4, rfl, rfl, rfl, h4, r4⟩ := trodAll_cons r3
  obtain ⟨v5, vs5, d5, ds5, p5, q5, rfl, rfl, rfl, h5, r5⟩ := trodAll_cons r4
  obtain ⟨rfl, rfl, rfl⟩ := trodAll_nil r5
  obtain rfl : args = #[v0, v1, v2, v3, v4, v5] := by cases args; simp_all
  obtain ⟨rfl, rfl⟩ := trodVars_none hV
  have k0 := h0
  have lt0 : ∀ x ∈ p0, x.block < W.heap.size := by obtain ⟨m, hm⟩ := k0; exact DataW.trod_lt m _ _ _ hm
  obtain ⟨xs0, rfl, w0⟩ := Go.SX.open_flat Try.underlying23 40 (ks := ks0) (by kernel_rfl) (by kernel_rfl) (hval 0 23 v0 rfl rfl) h0
  have k1 := h1
  have lt1 : ∀ x ∈ p1, x.block < W.heap.size := by obtain ⟨m, hm⟩ := k1; exact DataW.trod_lt m _ _ _ hm
  obtain ⟨xs1, rfl, w1⟩ := Go.SX.open_flat Try.underlying25 40 (ks := ks1) (by kernel_rfl) (by kernel_rfl) (hval 1 25 v1 rfl rfl) h1
  have k2 := h2
  have lt2 : ∀ x ∈ p2, x.block < W.heap.size := by obtain ⟨m, hm⟩ := k2; exact DataW.trod_lt m _ _ _ hm
  obtain ⟨xs2, rfl, w2⟩ := Go.SX.open_flat1 (k := some .i64) Try.underlying2 (hval 2 2 v2 rfl rfl) h2
  have k3 := h3
  have lt3 : ∀ x ∈ p3, x.block < W.heap.size := by obtain ⟨m, hm⟩ := k3; exact DataW.trod_lt m _ _ _ hm
  obtain ⟨xs3, rfl, w3⟩ := Go.SX.open_flat1 (k := some .i64) Try.underlying2 (hval 3 2 v3 rfl rfl) h3
  have k4 := h4
  have lt4 : ∀ x ∈ p4, x.block < W.heap.size := by obtain ⟨m, hm⟩ := k4; exact DataW.trod_lt m _ _ _ hm
  obtain ⟨xs4, rfl, w4⟩ := Go.SX.open_flat1 (k := some .i64) Try.underlying2 (hval 4 2 v4 rfl rfl) h4
  have k5 := h5
  have lt5 : ∀ x ∈ p5, x.block < W.heap.size := by obtain ⟨m, hm⟩ := k5; exact DataW.trod_lt m _ _ _ hm
  obtain ⟨D5, l5, w5⟩ := Go.SX.open_row Try.underlying26 40 (ks := ks5) (by kernel_rfl) (by kernel_rfl) (by decide) (hval 5 26 v5 rfl rfl) h5
  clear hA0 hval0
  refine (walk W xs0 xs1 xs2 xs3 xs4 v5 D5 w0 w1 w2 w3 w4 l5 w5).mono fun e W' ⟨he, bel⟩ => ?_
  subst he
  exact ⟨_, rfl, _, _, _, [], _, [], hW', trodAll_mk1 (shut_bool Try.underlying4 _), (trodAll_cons_mk (Below.trod laidOut (by kernel_rfl) (of_decide_eq_true (by kernel_rfl)) k0 bel lt0) (trodAll_cons_mk (Below.trod laidOut (by kernel_rfl) (of_decide_eq_true (by kernel_rfl)) k1 bel lt1) (trodAll_cons_mk (Below.trod laidOut (by kernel_rfl) (of_decide_eq_true (by kernel_rfl)) k2 bel lt2) (trodAll_cons_mk (Below.trod laidOut (by kernel_rfl) (of_decide_eq_true (by kernel_rfl)) k3 bel lt3) (trodAll_cons_mk (Below.trod laidOut (by kernel_rfl) (of_decide_eq_true (by kernel_rfl)) k4 bel lt4) (trodAll_cons_mk (Below.trod laidOut (by kernel_rfl) (of_decide_eq_true (by kernel_rfl)) k5 bel lt5) trodAll_mk0)))))), rfl, bel.frame _, fun h => by cases h⟩

theorem over : Rows.driveMotorsRow.holds Try.pinned (OpenSpec.ofChange Rows.driveMotorsSpec) :=
  OpenClaim.holds_of_wide 3 Try.f3 rfl rfl rfl rfl rfl rfl rfl ⟨rfl, rfl, rfl, rfl, rfl⟩ rfl rfl rfl rfl rfl (by kernel_rfl) Try.func3 (by kernel_rfl)
    (of_decide_eq_true (by kernel_rfl)) (by unfold Func.isWrapper; first | (rw [if_pos (by decide +kernel)]; kernel_rfl) | (rw [if_neg (by decide +kernel)]; exact ⟨rfl, rfl⟩))
    (fun os started H enc _ => lifted os started H enc)

/-- THE STATEMENT -/
theorem proved : Rows.DriveMotorsSaid := over
#print axioms proved
end Go.Proofs.Ytkibmcpegafdoaa.driveMotors
