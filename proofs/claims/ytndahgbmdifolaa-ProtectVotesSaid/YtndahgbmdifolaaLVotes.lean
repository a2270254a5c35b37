/- The law ProtectVotes answers true for every input: for all guards, channels and marks, Check, Vote, Holds, Apart and Reaction return what the document says; no condition beyond the row's own. The call is reckoned in a store of named blocks (the texts Sw1 to Sw28), in every order that the model may draw. -/
import Derived.Test.YtndahgbmdifolaaRows
import Derived.WalkKit
import Derived.ProofKit
import Derived.OpenShut
import Derived.Below
import Derived.ChangeOld
import Derived.Test.YtndahgbmdifolaaSw30
import Derived.Test.YtndahgbmdifolaaVe
namespace Go.Proofs.Ytndahgbmdifolaa.protectVotes
open Go.ChangeShapes Go.WideShapes Go.ChangeAt Go.RowKit
set_option linter.unusedVariables false
set_option linter.unusedSimpArgs false

theorem own : ownKnob Try.prog.godebug = none := by kernel_rfl
theorem laidOut : laidOutB Try.prog = true := by kernel_rfl
theorem mix : Try.prog.follows .mixedOrders = true := by kernel_rfl
def ks0 : List (Option IntKind) := [some .i64, some .i64, some .i64, some .i64, some .i64, some .i64, some .i64, some .i64, some .i64, some .i64, some .i64, some .i64, some .i64, some .i64, some .i64, some .i64, some .i64, some .i64, some .i64, some .i64, some .i64, some .i64]
def ks1 : List (Option IntKind) := [none, some .i64, some .i64, some .i64, some .i64, some .i64, none, some .i64, some .i64, some .i64, some .i64, some .i64, none, some .i64, some .i64, some .i64, some .i64, some .i64]
def ks2 : List (Option IntKind) := [none, none, none]
def ks3 : List (Option IntKind) := [some .i64]
def ks4 : List (Option IntKind) := [some .i64]
def sh : List Go.SX.PSh := [.flat true ks0, .flat true ks1, .flat true ks2, .flat false ks3, .flat false ks4]
/-- the functions of the loops, over those of the rows -/
noncomputable def fnL (g : Nat → List Int → Int) : Nat → List Int → Int := lfn g
noncomputable def fnP (pv : List Go.SX.PV) : Nat → List Int → Int := fnL (Go.SX.withRows (Go.SX.rowed fun _ _ => 0) sh pv)
theorem fnP_high (pv : List Go.SX.PV) (k : Nat) (a : List Int) (h : 1000 ≤ k) : fnP pv k a = Go.SX.withRows (Go.SX.rowed fun _ _ => 0) sh pv k a := lfn_high _ k a h
theorem fnP_rowFn (pv : List Go.SX.PV) : Go.SX.RowFn (fnP pv) := fun k a h1 h2 => by rw [fnP_high pv k a h1, Go.SX.withRows_low h2]; exact Go.SX.rowed_rows _ k a h1 h2
theorem fnP_rows (pv : List Go.SX.PV) : Go.SX.FnRows (fnP pv) sh pv 0 := Go.SX.rowVal_rows (by rfl) fun k a x hk hx => by
  rw [fnP_high pv k a (by unfold Go.SX.rowF at hk; omega)]
  unfold Go.SX.withRows; rw [hx]
def X : Go.SX.Par := Xl
theorem XOK (pv : List Go.SX.PV) : Go.SX.ParOK Try.prog (fnP pv) X := Xl_ok (good_of _ fun k a h1 h2 => by rw [Go.SX.withRows_low h2]; exact Go.SX.rowed_rows _ k a h1 h2)
def vt : Go.SX.VT := (.ite (.cmp .neq (.app 120 [(.var 0), (.var 1), (.var 2), (.var 3), (.var 4), (.var 5), (.var 6), (.var 7), (.var 8), (.var 9), (.var 10), (.var 11), (.var 12), (.var 13), (.var 14), (.var 15), (.var 16), (.var 17), (.var 18), (.var 19), (.var 20), (.var 21)]) (.lit 0)) (.ite (.cmp .neq (.app 120 [(.var 0), (.var 1), (.var 2), (.var 3), (.var 4), (.var 5), (.var 6), (.var 7), (.var 8), (.var 9), (.var 10), (.var 11), (.var 12), (.var 13), (.var 14), (.var 15), (.var 16), (.var 17), (.var 18), (.var 19), (.var 20), (.var 21)]) (.lit 2)) (.leaf (.bool (.lit false))) (.leaf (.bool (.lit true)))) (.ite (.cmp .lss (.var 43) (.lit 0)) (.leaf (.bool (.lit true))) (.ite (.cmp .gtr (.var 43) (.lit 4)) (.ite (.cmp .gtr (.var 43) (.lit 6)) (.leaf (.bool (.lit true))) (.ite (.cmp .lss (.var 44) (.lit 0)) (.leaf (.bool (.lit true))) (.ite (.cmp .gtr (.var 44) (.lit 20)) (.leaf (.bool (.lit true))) (.ite (.cmp .eql (.op .sub (.var 43) (.lit 1)) (.lit 4)) (.leaf (.bool (.lit true))) (.leaf (.bool (.lit true))))))) (.ite (.cmp .lss (.var 43) (.lit 1)) (.leaf (.bool (.lit true))) (.ite (.cmp .lss (.var 44) (.lit 0)) (.leaf (.bool (.lit true))) (.ite (.cmp .gtr (.var 44) (.lit 20)) (.leaf (.bool (.lit true))) (.ite (.cmp .eql (.op .sub (.var 43) (.lit 1)) (.lit 0)) (.leaf (.bool (.lit true))) (.ite (.cmp .eql (.op .sub (.var 43) (.lit 1)) (.lit 1)) (.leaf (.bool (.lit true))) (.ite (.cmp .eql (.op .sub (.var 43) (.lit 1)) (.lit 2)) (.leaf (.bool (.lit true))) (.leaf (.bool (.lit true))))))))))))
set_option maxRecDepth 100000 in
theorem tree_vt : (Go.SX.run (Go.SX.callT Try.prog X 100000 3 (Go.SX.shArgs sh 0 0) (Go.SX.shCtx sh [] 1)) (Go.SX.shSt sh)).vt = vt := by kernel_rfl
open Go.SX in
theorem main (pv : List Go.SX.PV) (w : World) (hw : Go.SX.pvAll w sh pv) : vt.holds (Go.SX.envOf (Go.SX.pvNums pv) (fnP pv)) fun v => Go.SX.yes (Go.SX.envOf (Go.SX.pvNums pv) (fnP pv)) v := by
  have hg : Good (fnP pv) := good_of _ fun k a h1 h2 => by rw [Go.SX.withRows_low h2]; exact Go.SX.rowed_rows _ k a h1 h2
  have hy : ∀ env (b : Bool), yes env (.bool (.lit b)) = (b = true) := fun _ _ => rfl
  unfold vt
  simp only [VT.holds, hy, Bool.false_eq_true, imp_false, implies_true, and_true, true_and]
  simp only [den_lit, den_var, den_ite, den_cmp, den_cmpB, den_tst, den_tstF, den_negT, den_negF, den_andT, den_andF, lssT, leqT, gtrT, geqT, eqlT, neqT, lssF, leqF, gtrF, geqF, eqlF, neqF, den_app, den_nilL, den_consL, den_add, den_sub, den_mul, den_tdiv, den_tmod, den_mx, den_mn, den_blit, Bool.false_eq_true]
  intro h1 h2
  rcases ck_vals hg _ with h | h
  · exact h1 h
  · exact h2 h
theorem walkAll (pv : List Go.SX.PV) (w : World) (hw : Go.SX.pvAll w sh pv) : Calls Try.prog 3 (Go.SX.pvVals sh pv).toArray w fun e w' => e = .returned (.bool true) ∧ Below w.heap.size w w' :=
  Go.SX.calls_rows (fn := fnP pv) mix (XOK pv) hw (fnP_rows pv) (by simp) tree_vt (main pv w hw)
theorem walk (w : World) (xs0 : List Int) (xs1 : List Int) (xs2 : List Int) (xs3 : List Int) (xs4 : List Int) (w0 : Go.SX.wfL ks0 xs0) (w1 : Go.SX.wfL ks1 xs1) (w2 : Go.SX.wfL ks2 xs2) (w3 : Go.SX.wfL ks3 xs3) (w4 : Go.SX.wfL ks4 xs4) :
    Calls Try.prog 3 #[.agg (Go.SX.valsL ks0 xs0).toArray, .agg (Go.SX.valsL ks1 xs1).toArray, .agg (Go.SX.valsL ks2 xs2).toArray, (Go.SX.valsL ks3 xs3).getD 0 undef, (Go.SX.valsL ks4 xs4).getD 0 undef] w fun e w' => e = .returned (.bool true) ∧ Below w.heap.size w w' :=
  walkAll [.flat xs0, .flat xs1, .flat xs2, .flat xs3, .flat xs4] w ⟨_, _, rfl, ⟨w0, (fun h => by cases h)⟩, ⟨_, _, rfl, ⟨w1, (fun h => by cases h)⟩, ⟨_, _, rfl, ⟨w2, (fun h => by cases h)⟩, ⟨_, _, rfl, ⟨w3, (fun _ => rfl)⟩, ⟨_, _, rfl, ⟨w4, (fun _ => rfl)⟩, rfl⟩⟩⟩⟩⟩

set_option maxRecDepth 100000 in
theorem lifted (os : Os) (started : os.Started) (H : Type) (enc : TypeId × Value → H) :
    ReturnsInHanded {} Try.checked os 3 .any (Rows.protectVotesSpec.pre6 enc Try.prog Try.f3 Rows.protectVotesRow.domain false) (Rows.protectVotesSpec.post enc Try.prog Try.f3 false true false false) := by
  refine returnsInHanded_of_change (C := Try.checked) own started (by kernel_rfl) Try.func3
    (ChangeSpec.witness6 (enc := enc) (C := Try.checked) false ⟨#[], #[.agg #[.int .i64 0, .int .i64 0, .int .i64 0, .int .i64 0, .int .i64 0, .int .i64 0, .int .i64 0, .int .i64 0, .int .i64 0, .int .i64 0, .int .i64 0, .int .i64 0, .int .i64 0, .int .i64 0, .int .i64 0, .int .i64 0, .int .i64 0, .int .i64 0, .int .i64 0, .int .i64 0, .int .i64 0, .int .i64 0], .agg #[.bool false, .int .i64 0, .int .i64 0, .int .i64 0, .int .i64 0, .int .i64 0, .bool false, .int .i64 0, .int .i64 0, .int .i64 0, .int .i64 0, .int .i64 0, .bool false, .int .i64 0, .int .i64 0, .int .i64 0, .int .i64 0, .int .i64 0], .agg #[.bool false, .bool false, .bool false], .int .i64 0, .int .i64 0], []⟩ 8 (by kernel_rfl) (by kernel_rfl) (by kernel_rfl) (by kernel_rfl)) ?_
  intro W base args ds gs before hval0 hW hcnd _
  have hval : ∀ (j : Nat) t v, Try.f3.params[j]? = some t → args[j]? = some v → Value.okWide Try.prog W .any base t v := hval0
  have hW' := hW
  obtain ⟨p, q, hA0, hV, rfl, hfz, hnd⟩ := hW
  have hA : DataW.TrodAll enc Try.prog W 0 (fun _ => true) true Try.f3.params.toList args.toList ds p := hA0
  rw [Try.params3] at hA hval
  obtain ⟨v0, vs0, d0, ds0, p0, q0, hargs, rfl, rfl, h0, r0⟩ := trodAll_cons hA
  obtain ⟨v1, vs1, d1, ds1, p1, q1, rfl, rfl, rfl, h1, r1⟩ := trodAll_cons r0
  obtain ⟨v2, vs2, d2, ds2, p2, q2, rfl, rfl, rfl, h2, r2⟩ := trodAll_cons r1
  obtain ⟨v3, vs3, d3, ds3, p3, q3, rfl, rfl, rfl, h3, r3⟩ := trodAll_cons r2
  obtain ⟨v4, vs4, d4, ds4, p4, q4, rfl, rfl, rfl, h4, r4⟩ := trodAll_cons r3
  obtain ⟨rfl, rfl, rfl⟩ := trodAll_nil r4
  obtain rfl : args = #[v0, v1, v2, v3, v4] := by cases args; simp_all
  obtain ⟨rfl, rfl⟩ := trodVars_none hV
  have k0 := h0
  have lt0 : ∀ x ∈ p0, x.block < W.heap.size := by obtain ⟨m, hm⟩ := k0; exact DataW.trod_lt m _ _ _ hm
  obtain ⟨xs0, rfl, w0⟩ := Go.SX.open_flat Try.underlying25 40 (ks := ks0) (by kernel_rfl) (by kernel_rfl) (hval 0 25 v0 rfl rfl) h0
  have k1 := h1
  have lt1 : ∀ x ∈ p1, x.block < W.heap.size := by obtain ⟨m, hm⟩ := k1; exact DataW.trod_lt m _ _ _ hm
  obtain ⟨xs1, rfl, w1⟩ := Go.SX.open_flatA Try.underlying28 40 (ks := ks1) (by kernel_rfl) (by kernel_rfl) (hval 1 28 v1 rfl rfl) h1
  have k2 := h2
  have lt2 : ∀ x ∈ p2, x.block < W.heap.size := by obtain ⟨m, hm⟩ := k2; exact DataW.trod_lt m _ _ _ hm
  obtain ⟨xs2, rfl, w2⟩ := Go.SX.open_flatA Try.underlying29 40 (ks := ks2) (by kernel_rfl) (by kernel_rfl) (hval 2 29 v2 rfl rfl) h2
  have k3 := h3
  have lt3 : ∀ x ∈ p3, x.block < W.heap.size := by obtain ⟨m, hm⟩ := k3; exact DataW.trod_lt m _ _ _ hm
  obtain ⟨xs3, rfl, w3⟩ := Go.SX.open_flat1 (k := some .i64) Try.underlying3 (hval 3 3 v3 rfl rfl) h3
  have k4 := h4
  have lt4 : ∀ x ∈ p4, x.block < W.heap.size := by obtain ⟨m, hm⟩ := k4; exact DataW.trod_lt m _ _ _ hm
  obtain ⟨xs4, rfl, w4⟩ := Go.SX.open_flat1 (k := some .i64) Try.underlying3 (hval 4 3 v4 rfl rfl) h4
  clear hA0 hval0
  refine (walk W xs0 xs1 xs2 xs3 xs4 w0 w1 w2 w3 w4).mono fun e W' ⟨he, bel⟩ => ?_
  subst he
  exact ⟨_, rfl, _, _, _, [], _, [], hW', trodAll_mk1 (shut_bool Try.underlying4 _), (trodAll_cons_mk (Below.trod laidOut (by kernel_rfl) (of_decide_eq_true (by kernel_rfl)) k0 bel lt0) (trodAll_cons_mk (Below.trod laidOut (by kernel_rfl) (of_decide_eq_true (by kernel_rfl)) k1 bel lt1) (trodAll_cons_mk (Below.trod laidOut (by kernel_rfl) (of_decide_eq_true (by kernel_rfl)) k2 bel lt2) (trodAll_cons_mk (Below.trod laidOut (by kernel_rfl) (of_decide_eq_true (by kernel_rfl)) k3 bel lt3) (trodAll_cons_mk (Below.trod laidOut (by kernel_rfl) (of_decide_eq_true (by kernel_rfl)) k4 bel lt4) trodAll_mk0))))), rfl, bel.frame _, fun h => by cases h⟩

theorem over : Rows.protectVotesRow.holds Try.pinned (OpenSpec.ofChange Rows.protectVotesSpec) :=
  OpenClaim.holds_of_wide 3 Try.f3 rfl rfl rfl rfl rfl rfl rfl ⟨rfl, rfl, rfl, rfl, rfl⟩ rfl rfl rfl rfl rfl (by kernel_rfl) Try.func3 (by kernel_rfl)
    (of_decide_eq_true (by kernel_rfl)) (by unfold Func.isWrapper; first | (rw [if_pos (by decide +kernel)]; kernel_rfl) | (rw [if_neg (by decide +kernel)]; exact ⟨rfl, rfl⟩))
    (fun os started H enc _ => lifted os started H enc)

/-- THE STATEMENT -/
theorem proved : Rows.ProtectVotesSaid := over
#print axioms proved
end Go.Proofs.Ytndahgbmdifolaa.protectVotes
