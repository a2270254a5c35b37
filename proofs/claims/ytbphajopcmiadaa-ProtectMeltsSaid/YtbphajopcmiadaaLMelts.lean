/- The law ProtectMelts answers true for every input: for all fuses and currents, Melts returns what the document says; no condition beyond the row's own. The call is reckoned in a store of named blocks (the texts Sw1 to Sw28), in every order that the model may draw. -/
import Derived.Test.YtbphajopcmiadaaRows
import Derived.WalkKit
import Derived.ProofKit
import Derived.OpenShut
import Derived.Below
import Derived.ChangeOld
import Derived.Test.YtbphajopcmiadaaSw30
namespace Go.Proofs.Ytbphajopcmiadaa.protectMelts
open Go.ChangeShapes Go.WideShapes Go.ChangeAt Go.RowKit
set_option linter.unusedVariables false
set_option linter.unusedSimpArgs false

theorem own : ownKnob Try.prog.godebug = none := by kernel_rfl
theorem laidOut : laidOutB Try.prog = true := by kernel_rfl
theorem mix : Try.prog.follows .mixedOrders = true := by kernel_rfl
def ks0 : List (Option IntKind) := [some .i64, some .i64]
def ks1 : List (Option IntKind) := [some .i64]
def sh : List Go.SX.PSh := [.flat true ks0, .row ks1]
open Go.SX
theorem noPar_ok (fn : Nat → List Int → Int) (hr : RowFn fn) : ParOK Try.prog fn noPar := ⟨fun env _ => noBook_ok _ _, (fun env _ f i g h => by cases h), hr⟩
def worksF : FC := ⟨17, [], .bool (.lit true), [], [], []⟩
set_option maxRecDepth 100000 in
theorem works_vt : (run (callT Try.prog noPar 100000 17 (symAll [] 0) (ctxF [] [] 1)) st0).vt = .leaf (.bool (.lit true)) := by kernel_rfl
theorem worksF_ok (fn : Nat → List Int → Int) (hr : RowFn fn) : worksF.OK Try.prog fn := by
  refine FC.ok_eqv (X := noPar) (d := 1) (n := 100000) (t := .leaf (.bool (.lit true))) mix (noPar_ok fn hr) rfl (by kernel_rfl) works_vt fun r hw _ => ⟨by simp [worksF], by simp [worksF], ?_⟩
  exact rfl
open Go.SX
def exV : List E := [.var 0, .var 1, .var 2]
def ctA : CT := (.ite (.cmp .lss (.var 3) (.var 2)) (.ite (.cmp .lss (.app 5000 [(.var 3)]) (.lit (-1048576))) (.exit 1 []) (.ite (.cmp .gtr (.app 5000 [(.var 3)]) (.lit 1048576)) (.exit 1 []) (.again [(.op .add (.var 3) (.lit 1))]))) (.exit 0 []))
def ctM : CT := (.ite (.cmp .lss (.var 3) (.var 2)) (.ite (.cmp .geq (.op .mx (.lit 0) (.bin .sub .i64 (.bin .add .i64 (.var 4) (.bin .mul .i64 (.app 5000 [(.var 3)]) (.app 5000 [(.var 3)]))) (.op .mul (.var 0) (.var 0)))) (.var 1)) (.exit 1 [(.var 3)]) (.again [(.op .add (.var 3) (.lit 1)), (.op .mx (.lit 0) (.bin .sub .i64 (.bin .add .i64 (.var 4) (.bin .mul .i64 (.app 5000 [(.var 3)]) (.app 5000 [(.var 3)]))) (.op .mul (.var 0) (.var 0))))])) (.exit 0 []))
def fI : List BE := [.cmp .leq (.var 3) (.var 2), .cmp .leq (.var 2) (.lit 2000)]
def LA : LC := ⟨3, 1, [(11, .int .i64 (.var 3))], [], [0, 1, 2, 6, 9, 10], [(0, 2000)], fI, [⟨.exit 0, 0, [], [], []⟩, ⟨.ret, 0, [], [], []⟩], ctA, [], 20, [], [], exV, []⟩
def LB : LC := ⟨3, 1, [(7, .int .i64 (.var 3)), (6, .int .i64 (.lit 0))], [], [0, 1, 2, 4, 5], [(0, 2000)], fI, [⟨.exit 0, 0, [(6, .int .i64 (.lit 0))], [], []⟩, ⟨.ret, 0, [(6, .int .i64 (.lit 3))], [], []⟩], ctA, [], 20, [], [], exV, []⟩
def LM : LC := ⟨3, 2, [(30, .int .i64 (.var 3)), (7, .int .i64 (.var 4))], [], [0, 1, 2, 6, 28, 29], [(0, 2000)], fI, [⟨.exit 0, 0, [], [], []⟩, ⟨.ret, 1, [(4, .int .i64 (.var 3)), (5, .bool (.lit true))], [], []⟩], ctM, [], 30, [], [], exV, []⟩
def LN : LC := ⟨3, 2, [(9, .int .i64 (.var 3)), (8, .int .i64 (.var 4))], [], [0, 1, 2, 6], [(0, 2000)], fI, [⟨.exit 2, 0, [], [], []⟩, ⟨.ret, 1, [(4, .int .i64 (.var 3)), (5, .bool (.lit true))], [], []⟩], ctM, [], 30, [], [], exV, []⟩
def meltLoops : LBook := fun f i => if f == 37 && i == 2 then some (fun tm _ => match tm.get 9 with | some (.vsl _ _) => some LA | _ => none) else if f == 19 && i == 6 then some (fun _ _ => some LB) else if f == 18 && i == 9 then some (fun _ _ => some LM) else if f == 19 && i == 12 then some (fun _ _ => some LN) else none
def meanA : Mean := ⟨20, 1, 0, ctA, fun es xs => (es.getD 2 0 - xs.getD 0 0).toNat + 1⟩
def meanM : Mean := ⟨30, 2, 1, ctM, fun es xs => (es.getD 2 0 - xs.getD 0 0).toNat + 1⟩
def X0 : Par := ⟨noBook, meltLoops, fun _ => false, fun _ => false⟩
/-- the functions of the loops, over those of the rows -/
noncomputable def fnL (g : Nat → List Int → Int) : Nat → List Int → Int := Go.SX.withLoop meanM (Go.SX.withLoop meanA g)
noncomputable def fnP (pv : List Go.SX.PV) : Nat → List Int → Int := fnL (Go.SX.withRows (Go.SX.rowed fun _ _ => 0) sh pv)
theorem fnP_high (pv : List Go.SX.PV) (k : Nat) (a : List Int) (h : 1000 ≤ k) : fnP pv k a = Go.SX.withRows (Go.SX.rowed fun _ _ => 0) sh pv k a := by show Go.SX.withLoop meanM (Go.SX.withLoop meanA _) k a = _; rw [Go.SX.withLoop_high (by decide) h, Go.SX.withLoop_high (by decide) h]
theorem fnP_rowFn (pv : List Go.SX.PV) : Go.SX.RowFn (fnP pv) := fun k a h1 h2 => by rw [fnP_high pv k a h1, Go.SX.withRows_low h2]; exact Go.SX.rowed_rows _ k a h1 h2
theorem fnP_rows (pv : List Go.SX.PV) : Go.SX.FnRows (fnP pv) sh pv 0 := Go.SX.rowVal_rows (by rfl) fun k a x hk hx => by
  rw [fnP_high pv k a (by unfold Go.SX.rowF at hk; omega)]
  unfold Go.SX.withRows; rw [hx]
theorem means (pv : List PV) : LA.Means meanA (fnP pv) (withRows (rowed fun _ _ => 0) sh pv) ∧ LB.Means meanA (fnP pv) (withRows (rowed fun _ _ => 0) sh pv) ∧ LM.Means meanM (fnP pv) (withRows (rowed fun _ _ => 0) sh pv) ∧ LN.Means meanM (fnP pv) (withRows (rowed fun _ _ => 0) sh pv) := by
  have hA : ∀ k a, meanA.K ≤ k → k ≤ meanA.K + meanA.m → fnP pv k a = withLoop meanA (withRows (rowed fun _ _ => 0) sh pv) k a := fun k a h1 h2 => withLoop_other (.inl (by simp only [meanA, meanM] at *; omega))
  have hM : ∀ k a, meanM.K ≤ k → k ≤ meanM.K + meanM.m → fnP pv k a = withLoop meanM (withRows (rowed fun _ _ => 0) sh pv) k a := by
    intro k a h1 h2
    show withLoop meanM (withLoop meanA _) k a = _
    unfold withLoop
    rw [if_neg (by omega), if_neg (by omega)]
    have hg : ∀ (n : Nat) (es xs : List Int), goOn meanM.ct (withLoop meanA (withRows (rowed fun _ _ => 0) sh pv)) es n xs = goOn meanM.ct (withRows (rowed fun _ _ => 0) sh pv) es n xs := by
      intro n
      induction n with
      | zero => intros; rfl
      | succ n ih =>
        intro es xs
        simp only [goOn]
        rw [show CT.ev (envOf (es ++ xs) (withLoop meanA (withRows (rowed fun _ _ => 0) sh pv))) meanM.ct = CT.ev (envOf (es ++ xs) (withRows (rowed fun _ _ => 0) sh pv)) meanM.ct from
          CT.uses_ev (p := fun k => Nat.ble 1000 k) (fun k a h => withLoop_high (by decide) (Nat.le_of_ble_eq_true h)) (by decide)]
        simp only [ih]
    have := hg
    unfold withLoop at this
    rw [this]
  have ag : ∀ k a, Nat.ble 1000 k = true → fnP pv k a = withRows (rowed fun _ _ => 0) sh pv k a := fun k a h => fnP_high pv k a (Nat.le_of_ble_eq_true h)
  refine ⟨⟨rfl, rfl, rfl, rfl, hA, ⟨_, by decide, ag⟩, ?_⟩, ⟨rfl, rfl, rfl, rfl, hA, ⟨_, by decide, ag⟩, ?_⟩, ⟨rfl, rfl, rfl, rfl, hM, ⟨_, by decide, ag⟩, ?_⟩, ⟨rfl, rfl, rfl, rfl, hM, ⟨_, by decide, ag⟩, ?_⟩⟩ <;>
    simp [LA, LB, LM, LN, meanA, meanM]
theorem A_step {env : Env} : ∀ xs, xs.length = LA.n → HeadOK env LA xs → StepOK env LA meanA xs := by
  intro xs hl hh
  obtain ⟨a, rfl⟩ := len1 hl
  rw [headOK_iff] at hh
  simp only [LA, fI, rngsP, factsP, den_lit, den_var, den_ite, den_cmp, den_cmpB, den_tst, den_tstF, den_negT, den_negF, den_andT, den_andF, lssT, leqT, gtrT, geqT, eqlT, neqT, lssF, leqF, gtrF, geqF, eqlF, neqF, den_app, den_nilL, den_consL, den_add, den_sub, den_mul, den_tdiv, den_tmod, den_mx, den_mn, den_blit, den_conv, upd_v, and_true] at hh
  simp at hh
  refine StepOK.of ?_
  simp only [headOK_iff]
  simp only [LA, ctA, fI, meanA, CT.step, rngsP, factsP, den_lit, den_var, den_ite, den_cmp, den_cmpB, den_tst, den_tstF, den_negT, den_negF, den_andT, den_andF, lssT, leqT, gtrT, geqT, eqlT, neqT, lssF, leqF, gtrF, geqF, eqlF, neqF, den_app, den_nilL, den_consL, den_add, den_sub, den_mul, den_tdiv, den_tmod, den_mx, den_mn, den_blit, den_conv, upd_v, and_true, List.length_cons, List.length_nil]
  simp
  omega
theorem B_step {env : Env} : ∀ xs, xs.length = LB.n → HeadOK env LB xs → StepOK env LB meanA xs := by
  intro xs hl hh
  obtain ⟨a, rfl⟩ := len1 hl
  rw [headOK_iff] at hh
  simp only [LB, fI, rngsP, factsP, den_lit, den_var, den_ite, den_cmp, den_cmpB, den_tst, den_tstF, den_negT, den_negF, den_andT, den_andF, lssT, leqT, gtrT, geqT, eqlT, neqT, lssF, leqF, gtrF, geqF, eqlF, neqF, den_app, den_nilL, den_consL, den_add, den_sub, den_mul, den_tdiv, den_tmod, den_mx, den_mn, den_blit, den_conv, upd_v, and_true] at hh
  simp at hh
  refine StepOK.of ?_
  simp only [headOK_iff]
  simp only [LB, ctA, fI, meanA, CT.step, rngsP, factsP, den_lit, den_var, den_ite, den_cmp, den_cmpB, den_tst, den_tstF, den_negT, den_negF, den_andT, den_andF, lssT, leqT, gtrT, geqT, eqlT, neqT, lssF, leqF, gtrF, geqF, eqlF, neqF, den_app, den_nilL, den_consL, den_add, den_sub, den_mul, den_tdiv, den_tmod, den_mx, den_mn, den_blit, den_conv, upd_v, and_true, List.length_cons, List.length_nil]
  simp
  omega
theorem M_step {env : Env} : ∀ xs, xs.length = LM.n → HeadOK env LM xs → StepOK env LM meanM xs := by
  intro xs hl hh
  obtain ⟨a, b, rfl⟩ := len2 hl
  rw [headOK_iff] at hh
  simp only [LM, fI, rngsP, factsP, den_lit, den_var, den_ite, den_cmp, den_cmpB, den_tst, den_tstF, den_negT, den_negF, den_andT, den_andF, lssT, leqT, gtrT, geqT, eqlT, neqT, lssF, leqF, gtrF, geqF, eqlF, neqF, den_app, den_nilL, den_consL, den_add, den_sub, den_mul, den_tdiv, den_tmod, den_mx, den_mn, den_blit, den_conv, upd_v, and_true] at hh
  simp at hh
  refine StepOK.of ?_
  simp only [headOK_iff]
  simp only [LM, ctM, fI, meanM, CT.step, rngsP, factsP, den_lit, den_var, den_ite, den_cmp, den_cmpB, den_tst, den_tstF, den_negT, den_negF, den_andT, den_andF, lssT, leqT, gtrT, geqT, eqlT, neqT, lssF, leqF, gtrF, geqF, eqlF, neqF, den_app, den_nilL, den_consL, den_add, den_sub, den_mul, den_tdiv, den_tmod, den_mx, den_mn, den_blit, den_conv, upd_v, and_true, List.length_cons, List.length_nil]
  simp
  omega
theorem N_step {env : Env} : ∀ xs, xs.length = LN.n → HeadOK env LN xs → StepOK env LN meanM xs := by
  intro xs hl hh
  obtain ⟨a, b, rfl⟩ := len2 hl
  rw [headOK_iff] at hh
  simp only [LN, fI, rngsP, factsP, den_lit, den_var, den_ite, den_cmp, den_cmpB, den_tst, den_tstF, den_negT, den_negF, den_andT, den_andF, lssT, leqT, gtrT, geqT, eqlT, neqT, lssF, leqF, gtrF, geqF, eqlF, neqF, den_app, den_nilL, den_consL, den_add, den_sub, den_mul, den_tdiv, den_tmod, den_mx, den_mn, den_blit, den_conv, upd_v, and_true] at hh
  simp at hh
  refine StepOK.of ?_
  simp only [headOK_iff]
  simp only [LN, ctM, fI, meanM, CT.step, rngsP, factsP, den_lit, den_var, den_ite, den_cmp, den_cmpB, den_tst, den_tstF, den_negT, den_negF, den_andT, den_andF, lssT, leqT, gtrT, geqT, eqlT, neqT, lssF, leqF, gtrF, geqF, eqlF, neqF, den_app, den_nilL, den_consL, den_add, den_sub, den_mul, den_tdiv, den_tmod, den_mx, den_mn, den_blit, den_conv, upd_v, and_true, List.length_cons, List.length_nil]
  simp
  omega
theorem loops_ok (pv : List PV) : LoopsOK (fnP pv) meltLoops := by
  intro env he f i g hg tm s L hL
  obtain ⟨m1, m2, m3, m4⟩ := means pv
  have hA : LoopOK env LA := loopOK_iter (by rw [he]; exact m1) A_step fun xs j ys h1 h2 h3 h4 h5 => ⟨fun b hb => absurd hb (by simp [LA]), fun e lo hi hb => absurd hb (by simp [LA])⟩
  have hB : LoopOK env LB := loopOK_iter (by rw [he]; exact m2) B_step fun xs j ys h1 h2 h3 h4 h5 => ⟨fun b hb => absurd hb (by simp [LB]), fun e lo hi hb => absurd hb (by simp [LB])⟩
  have hM : LoopOK env LM := loopOK_iter (by rw [he]; exact m3) M_step fun xs j ys h1 h2 h3 h4 h5 => ⟨fun b hb => absurd hb (by simp [LM]), fun e lo hi hb => absurd hb (by simp [LM])⟩
  have hN : LoopOK env LN := loopOK_iter (by rw [he]; exact m4) N_step fun xs j ys h1 h2 h3 h4 h5 => ⟨fun b hb => absurd hb (by simp [LN]), fun e lo hi hb => absurd hb (by simp [LN])⟩
  unfold meltLoops at hg
  split at hg
  · cases hg
    simp only at hL
    split at hL
    · cases hL; exact hA
    · cases hL
  split at hg
  · cases hg; cases hL; exact hB
  split at hg
  · cases hg; cases hL; exact hM
  split at hg
  · cases hg; cases hL; exact hN
  · cases hg
def X : Go.SX.Par := worksF.par X0
theorem XOK (pv : List Go.SX.PV) : Go.SX.ParOK Try.prog (fnP pv) X := FC.parOK (worksF_ok _ (fnP_rowFn pv)) rfl ⟨fun env _ => noBook_ok _ _, loops_ok pv, fnP_rowFn pv⟩
def vt : Go.SX.VT := (.ite (.cmp .gtr (.var 2) (.lit 3000)) (.leaf (.bool (.lit true))) (.ite (.cmp .lss (.var 0) (.lit 0)) (.leaf (.bool (.lit true))) (.ite (.cmp .gtr (.var 0) (.lit 1048576)) (.leaf (.bool (.lit true))) (.ite (.cmp .lss (.var 1) (.lit 1)) (.leaf (.bool (.lit true))) (.ite (.cmp .gtr (.var 1) (.lit 1099511627776)) (.leaf (.bool (.lit true))) (.ite (.cmp .gtr (.var 2) (.lit 2000)) (.leaf (.bool (.lit true))) (.ite (.cmp .eql (.app 20 [(.lit 0), (.var 0), (.var 1), (.var 2)]) (.lit 0)) (.ite (.cmp .eql (.app 30 [(.lit 0), (.lit 0), (.var 0), (.var 1), (.var 2)]) (.lit 0)) (.leaf (.bool (.lit true))) (.leaf (.bool (.lit true)))) (.leaf (.bool (.lit true))))))))))
set_option maxRecDepth 100000 in
theorem tree_vt : (Go.SX.run (Go.SX.callT Try.prog X 100000 4 (Go.SX.shArgs sh 0 0) (Go.SX.shCtx sh [] 1)) (Go.SX.shSt sh)).vt = vt := by kernel_rfl
open Go.SX in
theorem main (pv : List Go.SX.PV) (w : World) (hw : Go.SX.pvAll w sh pv) : vt.holds (Go.SX.envOf (Go.SX.pvNums pv) (fnP pv)) fun v => Go.SX.yes (Go.SX.envOf (Go.SX.pvNums pv) (fnP pv)) v := VT.allYes_holds rfl
theorem walkAll (pv : List Go.SX.PV) (w : World) (hw : Go.SX.pvAll w sh pv) : Calls Try.prog 4 (Go.SX.pvVals sh pv).toArray w fun e w' => e = .returned (.bool true) ∧ Below w.heap.size w w' :=
  Go.SX.calls_rows (fn := fnP pv) mix (XOK pv) hw (fnP_rows pv) (by simp) tree_vt (main pv w hw)
theorem walk (w : World) (xs0 : List Int) (v1 : Value) (D1 : Go.SX.RowD) (w0 : Go.SX.wfL ks0 xs0) (l1 : (D1.len : Int) ≤ 9223372036854775807) (w1 : ∃ r o, Go.SX.RowIs w ks1 D1 v1 r o) :
    Calls Try.prog 4 #[.agg (Go.SX.valsL ks0 xs0).toArray, v1] w fun e w' => e = .returned (.bool true) ∧ Below w.heap.size w w' :=
  walkAll [.flat xs0, .row D1 v1] w ⟨_, _, rfl, ⟨w0, (fun h => by cases h)⟩, ⟨_, _, rfl, ⟨l1, w1⟩, rfl⟩⟩

set_option maxRecDepth 100000 in
theorem lifted (os : Os) (started : os.Started) (H : Type) (enc : TypeId × Value → H) :
    ReturnsInHanded {} Try.checked os 4 .any (Rows.protectMeltsSpec.pre6 enc Try.prog Try.f4 Rows.protectMeltsRow.domain false) (Rows.protectMeltsSpec.post enc Try.prog Try.f4 false true false false) := by
  refine returnsInHanded_of_change (C := Try.checked) own started (by kernel_rfl) Try.func4
    (ChangeSpec.witness6 (enc := enc) (C := Try.checked) false ⟨#[], #[.agg #[.int .i64 0, .int .i64 0], .slice none 0 0], []⟩ 8 (by kernel_rfl) (by kernel_rfl) (by kernel_rfl) (by kernel_rfl)) ?_
  intro W base args ds gs before hval0 hW hcnd _
  have hval : ∀ (j : Nat) t v, Try.f4.params[j]? = some t → args[j]? = some v → Value.okWide Try.prog W .any base t v := hval0
  have hW' := hW
  obtain ⟨p, q, hA0, hV, rfl, hfz, hnd⟩ := hW
  have hA : DataW.TrodAll enc Try.prog W 0 (fun _ => true) true Try.f4.params.toList args.toList ds p := hA0
  rw [Try.params4] at hA hval
  obtain ⟨v0, vs0, d0, ds0, p0, q0, hargs, rfl, rfl, h0, r0⟩ := trodAll_cons hA
  obtain ⟨v1, vs1, d1, ds1, p1, q1, rfl, rfl, rfl, h1, r1⟩ := trodAll_cons r0
  obtain ⟨rfl, rfl, rfl⟩ := trodAll_nil r1
  obtain rfl : args = #[v0, v1] := by cases args; simp_all
  obtain ⟨rfl, rfl⟩ := trodVars_none hV
  have k0 := h0
  have lt0 : ∀ x ∈ p0, x.block < W.heap.size := by obtain ⟨m, hm⟩ := k0; exact DataW.trod_lt m _ _ _ hm
  obtain ⟨xs0, rfl, w0⟩ := Go.SX.open_flat Try.underlying44 40 (ks := ks0) (by kernel_rfl) (by kernel_rfl) (hval 0 44 v0 rfl rfl) h0
  have k1 := h1
  have lt1 : ∀ x ∈ p1, x.block < W.heap.size := by obtain ⟨m, hm⟩ := k1; exact DataW.trod_lt m _ _ _ hm
  obtain ⟨D1, l1, w1⟩ := Go.SX.open_row Try.underlying45 40 (ks := ks1) (by kernel_rfl) (by kernel_rfl) (by decide) (hval 1 45 v1 rfl rfl) h1
  clear hA0 hval0
  refine (walk W xs0 v1 D1 w0 l1 w1).mono fun e W' ⟨he, bel⟩ => ?_
  subst he
  exact ⟨_, rfl, _, _, _, [], _, [], hW', trodAll_mk1 (shut_bool Try.underlying4 _), (trodAll_cons_mk (Below.trod laidOut (by kernel_rfl) (of_decide_eq_true (by kernel_rfl)) k0 bel lt0) (trodAll_cons_mk (Below.trod laidOut (by kernel_rfl) (of_decide_eq_true (by kernel_rfl)) k1 bel lt1) trodAll_mk0)), rfl, bel.frame _, fun h => by cases h⟩

theorem over : Rows.protectMeltsRow.holds Try.pinned (OpenSpec.ofChange Rows.protectMeltsSpec) :=
  OpenClaim.holds_of_wide 4 Try.f4 rfl rfl rfl rfl rfl rfl rfl ⟨rfl, rfl, rfl, rfl, rfl⟩ rfl rfl rfl rfl rfl (by kernel_rfl) Try.func4 (by kernel_rfl)
    (of_decide_eq_true (by kernel_rfl)) (by unfold Func.isWrapper; first | (rw [if_pos (by decide +kernel)]; kernel_rfl) | (rw [if_neg (by decide +kernel)]; exact ⟨rfl, rfl⟩))
    (fun os started H enc _ => lifted os started H enc)

/-- THE STATEMENT -/
theorem proved : Rows.ProtectMeltsSaid := over
#print axioms proved
end Go.Proofs.Ytbphajopcmiadaa.protectMelts
