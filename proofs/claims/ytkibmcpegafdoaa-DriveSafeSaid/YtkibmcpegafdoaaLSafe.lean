/- The law DriveSafe answers true for every input: for every motor within its tolerances, every state within the limits, each measured speed with an error within its span, all voltages that are allowed, and every load, the next currents are within the limits; no condition beyond the row's own. The call is reckoned in a store of named blocks (the texts Sw1 to Sw28), in every order that the model may draw. -/
import Derived.Test.YtkibmcpegafdoaaRows
import Derived.WalkKit
import Derived.ProofKit
import Derived.OpenShut
import Derived.Below
import Derived.ChangeOld
import Derived.Test.YtkibmcpegafdoaaSw30
import Derived.Test.YtkibmcpegafdoaaSc
namespace Go.Proofs.Ytkibmcpegafdoaa.driveSafe
open Go.ChangeShapes Go.WideShapes Go.ChangeAt Go.RowKit
set_option linter.unusedVariables false
set_option linter.unusedSimpArgs false

theorem own : ownKnob Try.prog.godebug = none := by kernel_rfl
theorem laidOut : laidOutB Try.prog = true := by kernel_rfl
theorem mix : Try.prog.follows .mixedOrders = true := by kernel_rfl
def ks0 : List (Option IntKind) := [some .i64, some .i64, some .i64, some .i64, some .i64, some .i64, some .i64, some .i64, some .i64, some .i64]
def ks1 : List (Option IntKind) := [some .i64, some .i64]
def ks2 : List (Option IntKind) := [some .i64]
def ks3 : List (Option IntKind) := [some .i64]
def ks4 : List (Option IntKind) := [some .u64]
def sh : List Go.SX.PSh := [.flat true ks0, .row ks1, .flat false ks2, .flat false ks3, .row ks4]
open Go.SX
theorem yesLit (env : Env) (b : Bool) : yes env (.bool (.lit b)) = (b = true) := rfl
/-- the first limits' spans, at rest -/
def r0 : List E := [.var 0, .var 1, .var 2, .var 3, .var 4, .var 5, .var 6, .var 7, .var 8, .var 9, .op .add (.var 0) (.app 5000 [.lit 0]), .op .add (.var 0) (.app 5001 [.lit 0]), .op .add (.var 1) (.app 5000 [.lit 1]), .op .add (.var 1) (.app 5001 [.lit 1]), .op .add (.var 2) (.app 5000 [.lit 2]), .op .add (.var 2) (.app 5001 [.lit 2]), .op .add (.var 3) (.app 5000 [.lit 3]), .op .add (.var 3) (.app 5001 [.lit 3]), .app 5000 [.lit 4], .app 5001 [.lit 4], .lit 0, .lit 0, .lit 0]
def c1 : BE := .cmp .gtr (.app 110 r0) (.app 111 r0)
def c2 : BE := .cmp .gtr (.app 112 r0) (.app 113 r0)
theorem one_ok {env : Env} {b : BE} {v : Bool} (h : b.den env = v) : ∀ be w, (be, w) ∈ [(b, v)] → be.den env = w := by
  intro be w hm
  simp only [List.mem_singleton] at hm
  cases hm
  exact h
theorem two_ok {env : Env} {b b' : BE} {v v' : Bool} (h : b.den env = v) (h' : b'.den env = v') : ∀ be w, (be, w) ∈ [(b, v), (b', v')] → be.den env = w := by
  intro be w hm
  simp only [List.mem_cons, List.not_mem_nil, or_false] at hm
  rcases hm with hm | hm
  · cases hm; exact h
  · cases hm; exact h'
noncomputable def fn0 : Nat → List Int → Int := Go.SX.rowed (sfn)
def X : Go.SX.Par := Xsafe
theorem XOK : ∀ fn, (∀ k a, k < 5000 → fn k a = fn0 k a) → Go.SX.ParOK Try.prog fn X := fun fn h => Xsafe_ok (fn := fn) fun k a hk => h k a (by unfold Go.SX.low at hk; omega)
def facts0 : List (Go.SX.BE × Bool) := [(c1, true)]
def vt0 : Go.SX.VT := vtS
set_option maxRecDepth 100000 in
theorem tree_vt0 : (Go.SX.run (Go.SX.callT Try.prog X 100000 5 (Go.SX.shArgs sh 0 0) (Go.SX.shCtx sh facts0 0)) (Go.SX.shSt sh)).vt = vt0 := by kernel_rfl
open Go.SX in
theorem main0 (pv : List Go.SX.PV) (w : World) (hw : Go.SX.pvAll w sh pv) (hf : ∀ be v, (be, v) ∈ facts0 → be.den (Go.SX.envOf (Go.SX.pvNums pv) (Go.SX.withRows fn0 sh pv)) = v) : vt0.holds (Go.SX.envOf (Go.SX.pvNums pv) (Go.SX.withRows fn0 sh pv)) fun v => Go.SX.yes (Go.SX.envOf (Go.SX.pvNums pv) (Go.SX.withRows fn0 sh pv)) v := core (env := envOf (pvNums pv) (withRows fn0 sh pv)) fun k a hk => withRows_low (by unfold low at hk; omega)
def facts1 : List (Go.SX.BE × Bool) := [(c1, false), (c2, true)]
def vt1 : Go.SX.VT := vtS
set_option maxRecDepth 100000 in
theorem tree_vt1 : (Go.SX.run (Go.SX.callT Try.prog X 100000 5 (Go.SX.shArgs sh 0 0) (Go.SX.shCtx sh facts1 0)) (Go.SX.shSt sh)).vt = vt1 := by kernel_rfl
open Go.SX in
theorem main1 (pv : List Go.SX.PV) (w : World) (hw : Go.SX.pvAll w sh pv) (hf : ∀ be v, (be, v) ∈ facts1 → be.den (Go.SX.envOf (Go.SX.pvNums pv) (Go.SX.withRows fn0 sh pv)) = v) : vt1.holds (Go.SX.envOf (Go.SX.pvNums pv) (Go.SX.withRows fn0 sh pv)) fun v => Go.SX.yes (Go.SX.envOf (Go.SX.pvNums pv) (Go.SX.withRows fn0 sh pv)) v := core (env := envOf (pvNums pv) (withRows fn0 sh pv)) fun k a hk => withRows_low (by unfold low at hk; omega)
def facts2 : List (Go.SX.BE × Bool) := [(c1, false), (c2, false)]
def vt2 : Go.SX.VT := vtS
set_option maxRecDepth 100000 in
theorem tree_vt2 : (Go.SX.run (Go.SX.callT Try.prog X 100000 5 (Go.SX.shArgs sh 0 0) (Go.SX.shCtx sh facts2 0)) (Go.SX.shSt sh)).vt = vt2 := by kernel_rfl
open Go.SX in
theorem main2 (pv : List Go.SX.PV) (w : World) (hw : Go.SX.pvAll w sh pv) (hf : ∀ be v, (be, v) ∈ facts2 → be.den (Go.SX.envOf (Go.SX.pvNums pv) (Go.SX.withRows fn0 sh pv)) = v) : vt2.holds (Go.SX.envOf (Go.SX.pvNums pv) (Go.SX.withRows fn0 sh pv)) fun v => Go.SX.yes (Go.SX.envOf (Go.SX.pvNums pv) (Go.SX.withRows fn0 sh pv)) v := core (env := envOf (pvNums pv) (withRows fn0 sh pv)) fun k a hk => withRows_low (by unfold low at hk; omega)
open Go.SX in
theorem cover (pv : List Go.SX.PV) (w : World) (hw : Go.SX.pvAll w sh pv) : (∀ be v, (be, v) ∈ facts0 → be.den (Go.SX.envOf (Go.SX.pvNums pv) (Go.SX.withRows fn0 sh pv)) = v) ∨ (∀ be v, (be, v) ∈ facts1 → be.den (Go.SX.envOf (Go.SX.pvNums pv) (Go.SX.withRows fn0 sh pv)) = v) ∨ (∀ be v, (be, v) ∈ facts2 → be.den (Go.SX.envOf (Go.SX.pvNums pv) (Go.SX.withRows fn0 sh pv)) = v) := by
  cases h1 : c1.den (envOf (pvNums pv) (withRows fn0 sh pv)) with
  | true => exact .inl (one_ok h1)
  | false =>
    cases h2 : c2.den (envOf (pvNums pv) (withRows fn0 sh pv)) with
    | true => exact .inr (.inl (two_ok h1 h2))
    | false => exact .inr (.inr (two_ok h1 h2))

theorem walkAll (pv : List Go.SX.PV) (w : World) (hw : Go.SX.pvAll w sh pv) : Calls Try.prog 5 (Go.SX.pvVals sh pv).toArray w fun e w' => e = .returned (.bool true) ∧ Below w.heap.size w w' := by
  rcases cover pv w hw with hf | hf | hf
  · exact Go.SX.calls_rows (fn := Go.SX.withRows fn0 sh pv) mix (XOK _ fun k a h => Go.SX.withRows_low h) hw (Go.SX.withRows_rows (by rfl)) hf tree_vt0 (main0 pv w hw hf)
  · exact Go.SX.calls_rows (fn := Go.SX.withRows fn0 sh pv) mix (XOK _ fun k a h => Go.SX.withRows_low h) hw (Go.SX.withRows_rows (by rfl)) hf tree_vt1 (main1 pv w hw hf)
  · exact Go.SX.calls_rows (fn := Go.SX.withRows fn0 sh pv) mix (XOK _ fun k a h => Go.SX.withRows_low h) hw (Go.SX.withRows_rows (by rfl)) hf tree_vt2 (main2 pv w hw hf)
theorem walk (w : World) (xs0 : List Int) (v1 : Value) (D1 : Go.SX.RowD) (xs2 : List Int) (xs3 : List Int) (v4 : Value) (D4 : Go.SX.RowD) (w0 : Go.SX.wfL ks0 xs0) (l1 : (D1.len : Int) ≤ 9223372036854775807) (w1 : ∃ r o, Go.SX.RowIs w ks1 D1 v1 r o) (w2 : Go.SX.wfL ks2 xs2) (w3 : Go.SX.wfL ks3 xs3) (l4 : (D4.len : Int) ≤ 9223372036854775807) (w4 : ∃ r o, Go.SX.RowIs w ks4 D4 v4 r o) :
    Calls Try.prog 5 #[.agg (Go.SX.valsL ks0 xs0).toArray, v1, (Go.SX.valsL ks2 xs2).getD 0 undef, (Go.SX.valsL ks3 xs3).getD 0 undef, v4] w fun e w' => e = .returned (.bool true) ∧ Below w.heap.size w w' :=
  walkAll [.flat xs0, .row D1 v1, .flat xs2, .flat xs3, .row D4 v4] w ⟨_, _, rfl, ⟨w0, (fun h => by cases h)⟩, ⟨_, _, rfl, ⟨l1, w1⟩, ⟨_, _, rfl, ⟨w2, (fun _ => rfl)⟩, ⟨_, _, rfl, ⟨w3, (fun _ => rfl)⟩, ⟨_, _, rfl, ⟨l4, w4⟩, rfl⟩⟩⟩⟩⟩

set_option maxRecDepth 100000 in
theorem lifted (os : Os) (started : os.Started) (H : Type) (enc : TypeId × Value → H) :
    ReturnsInHanded {} Try.checked os 5 .any (Rows.driveSafeSpec.pre6 enc Try.prog Try.f5 Rows.driveSafeRow.domain false) (Rows.driveSafeSpec.post enc Try.prog Try.f5 false true false false) := by
  refine returnsInHanded_of_change (C := Try.checked) own started (by kernel_rfl) Try.func5
    (ChangeSpec.witness6 (enc := enc) (C := Try.checked) false ⟨#[], #[.agg #[.int .i64 0, .int .i64 0, .int .i64 0, .int .i64 0, .int .i64 0, .int .i64 0, .int .i64 0, .int .i64 0, .int .i64 0, .int .i64 0], .slice none 0 0, .int .i64 0, .int .i64 0, .slice none 0 0], []⟩ 8 (by kernel_rfl) (by kernel_rfl) (by kernel_rfl) (by kernel_rfl)) ?_
  intro W base args ds gs before hval0 hW hcnd _
  have hval : ∀ (j : Nat) t v, Try.f5.params[j]? = some t → args[j]? = some v → Value.okWide Try.prog W .any base t v := hval0
  have hW' := hW
  obtain ⟨p, q, hA0, hV, rfl, hfz, hnd⟩ := hW
  have hA : DataW.TrodAll enc Try.prog W 0 (fun _ => true) true Try.f5.params.toList args.toList ds p := hA0
  rw [Try.params5] at hA hval
  obtain ⟨v0, vs0, d0, ds0, p0, q0, hargs, rfl, rfl, h0, r0⟩ := trodAll_cons hA
  obtain ⟨v1, vs1, d1, ds1, p1, q1, rfl, rfl, rfl, h1, r1⟩ := trodAll_cons r0
  obtain ⟨v2, vs2, d2, ds2, p2, q2, rfl, rfl, rfl, h2, r2⟩ := trodAll_cons r1
  obtain ⟨v3, vs3, d3, ds3, p3, q3, rfl, rfl, rfl, h3, r3⟩ := trodAll_cons r2
  obtain ⟨v4, vs4, d4, ds4, p4, q4, rfl, rfl, rfl, h4, r4⟩ := trodAll_cons r3
  obtain ⟨rfl, rfl, rfl⟩ := trodAll_nil r4
  obtain rfl : args = #[v0, v1, v2, v3, v4] := by cases args; simp_all
  obtain ⟨rfl, rfl⟩ := trodVars_none hV
  have k0 := h0
  have lt0 : ∀ x ∈ p0, x.block < W.heap.size := by obtain ⟨m, hm⟩ := k0; exact DataW.trod_lt m _ _ _ hm
  obtain ⟨xs0, rfl, w0⟩ := Go.SX.open_flat Try.underlying23 40 (ks := ks0) (by kernel_rfl) (by kernel_rfl) (hval 0 23 v0 rfl rfl) h0
  have k1 := h1
  have lt1 : ∀ x ∈ p1, x.block < W.heap.size := by obtain ⟨m, hm⟩ := k1; exact DataW.trod_lt m _ _ _ hm
  obtain ⟨D1, l1, w1⟩ := Go.SX.open_row Try.underlying39 40 (ks := ks1) (by kernel_rfl) (by kernel_rfl) (by decide) (hval 1 39 v1 rfl rfl) h1
  have k2 := h2
  have lt2 : ∀ x ∈ p2, x.block < W.heap.size := by obtain ⟨m, hm⟩ := k2; exact DataW.trod_lt m _ _ _ hm
  obtain ⟨xs2, rfl, w2⟩ := Go.SX.open_flat1 (k := some .i64) Try.underlying2 (hval 2 2 v2 rfl rfl) h2
  have k3 := h3
  have lt3 : ∀ x ∈ p3, x.block < W.heap.size := by obtain ⟨m, hm⟩ := k3; exact DataW.trod_lt m _ _ _ hm
  obtain ⟨xs3, rfl, w3⟩ := Go.SX.open_flat1 (k := some .i64) Try.underlying2 (hval 3 2 v3 rfl rfl) h3
  have k4 := h4
  have lt4 : ∀ x ∈ p4, x.block < W.heap.size := by obtain ⟨m, hm⟩ := k4; exact DataW.trod_lt m _ _ _ hm
  obtain ⟨D4, l4, w4⟩ := Go.SX.open_row Try.underlying48 40 (ks := ks4) (by kernel_rfl) (by kernel_rfl) (by decide) (hval 4 48 v4 rfl rfl) h4
  clear hA0 hval0
  refine (walk W xs0 v1 D1 xs2 xs3 v4 D4 w0 l1 w1 w2 w3 l4 w4).mono fun e W' ⟨he, bel⟩ => ?_
  subst he
  exact ⟨_, rfl, _, _, _, [], _, [], hW', trodAll_mk1 (shut_bool Try.underlying4 _), (trodAll_cons_mk (Below.trod laidOut (by kernel_rfl) (of_decide_eq_true (by kernel_rfl)) k0 bel lt0) (trodAll_cons_mk (Below.trod laidOut (by kernel_rfl) (of_decide_eq_true (by kernel_rfl)) k1 bel lt1) (trodAll_cons_mk (Below.trod laidOut (by kernel_rfl) (of_decide_eq_true (by kernel_rfl)) k2 bel lt2) (trodAll_cons_mk (Below.trod laidOut (by kernel_rfl) (of_decide_eq_true (by kernel_rfl)) k3 bel lt3) (trodAll_cons_mk (Below.trod laidOut (by kernel_rfl) (of_decide_eq_true (by kernel_rfl)) k4 bel lt4) trodAll_mk0))))), rfl, bel.frame _, fun h => by cases h⟩

theorem over : Rows.driveSafeRow.holds Try.pinned (OpenSpec.ofChange Rows.driveSafeSpec) :=
  OpenClaim.holds_of_wide 5 Try.f5 rfl rfl rfl rfl rfl rfl rfl ⟨rfl, rfl, rfl, rfl, rfl⟩ rfl rfl rfl rfl rfl (by kernel_rfl) Try.func5 (by kernel_rfl)
    (of_decide_eq_true (by kernel_rfl)) (by unfold Func.isWrapper; first | (rw [if_pos (by decide +kernel)]; kernel_rfl) | (rw [if_neg (by decide +kernel)]; exact ⟨rfl, rfl⟩))
    (fun os started H enc _ => lifted os started H enc)

/-- THE STATEMENT -/
theorem proved : Rows.DriveSafeSaid := over
#print axioms proved
end Go.Proofs.Ytkibmcpegafdoaa.driveSafe
