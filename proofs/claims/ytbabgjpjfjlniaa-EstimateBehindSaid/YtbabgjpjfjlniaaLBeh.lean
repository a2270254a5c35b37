/- The law EstimateBehind answers true for every input: behind a reading are just the quantities of which it is shown with some noise; no condition beyond the row's own. -/
import Derived.Test.YtbabgjpjfjlniaaRows
import Derived.WalkKit
import Derived.ProofKit
import Derived.OpenShut
import Derived.Below
import Derived.ChangeOld
import Derived.Test.YtbabgjpjfjlniaaSy24
import Derived.Test.YtbabgjpjfjlniaaSy25
import Derived.Test.YtbabgjpjfjlniaaSe9
namespace Go.Proofs.Ytbabgjpjfjlniaa.estimateBehind
open Go.ChangeShapes Go.WideShapes Go.ChangeAt Go.RowKit
set_option linter.unusedVariables false
set_option linter.unusedSimpArgs false

theorem own : ownKnob Try.prog.godebug = none := by kernel_rfl
theorem laidOut : laidOutB Try.prog = true := by kernel_rfl
theorem mix : Try.prog.follows .mixedOrders = true := by kernel_rfl
def ks0 : List (Option IntKind) := [some .u8, some .u8, some .i16, some .u16]
def ks1 : List (Option IntKind) := [some .i16]
def ks2 : List (Option IntKind) := [some .i8]
def sig : List (Bool × List (Option IntKind)) := [(true, ks0), (false, ks1), (false, ks2)]
open Go.SX SE
set_option maxRecDepth 100000
theorem den_blit (env : Env) (b : Bool) : (BE.lit b).den env = b := rfl
noncomputable def fn : Nat → List Int → Int := Ytbabgjpjfjlniaa.sfn
def X : Go.SX.Par := parN
theorem XOK : Go.SX.ParOK Try.prog fn X := parN_ok
def facts : List (Go.SX.BE × Bool) := []
/-- what the call comes to -/
noncomputable def tree : Go.SX.PT := Go.SX.run (Go.SX.callT Try.prog X 1000 5 (Go.SX.symAll sig 0) (Go.SX.ctxF sig facts 5)) Go.SX.st0
theorem tree_eq : Go.SX.run (Go.SX.callT Try.prog X 1000 5 (Go.SX.symAll sig 0) (Go.SX.ctxF sig facts 5)) Go.SX.st0 = tree := rfl
attribute [irreducible] tree
set_option maxRecDepth 100000 in
def vt : Go.SX.VT := (.ite (.tst (.ite (.cmp .gtr (.var 5) (.var 0)) (.lit 1) (.cmp .gtr (.op .sub (.lit 0) (.var 5)) (.var 0)))) (.leaf (.bool (.cmp .eql (.app 4 [(.var 0), (.op .add (.lit 1) (.var 1)), (.var 2), (.op .add (.var 2) (.var 3)), (.var 4), (.var 5)]) (.lit 3)))) (.ite (.tst (.ite (.cmp .neq (.app 4 [(.var 0), (.op .add (.lit 1) (.var 1)), (.var 2), (.op .add (.var 2) (.var 3)), (.var 4), (.var 5)]) (.lit 0)) (.lit 1) (.ite (.ite (.cmp .neq (.app 7 [(.var 0), (.op .add (.lit 1) (.var 1)), (.var 2), (.op .add (.var 2) (.var 3)), (.app 3 [(.var 0), (.op .add (.lit 1) (.var 1)), (.var 2), (.op .add (.var 2) (.var 3)), (.var 4), (.var 5)])]) (.lit 0)) (.lit 1) (.ite (.ite (.cmp .eql (.ite (.cmp .gtr (.app 5 [(.var 0), (.op .add (.lit 1) (.var 1)), (.var 2), (.op .add (.var 2) (.var 3)), (.app 3 [(.var 0), (.op .add (.lit 1) (.var 1)), (.var 2), (.op .add (.var 2) (.var 3)), (.var 4), (.var 5)])]) (.app 6 [(.var 0), (.op .add (.lit 1) (.var 1)), (.var 2), (.op .add (.var 2) (.var 3)), (.app 3 [(.var 0), (.op .add (.lit 1) (.var 1)), (.var 2), (.op .add (.var 2) (.var 3)), (.var 4), (.var 5)])])) (.lit 2) (.lit 0)) (.lit 0)) (.ite (.cmp .leq (.app 5 [(.var 0), (.op .add (.lit 1) (.var 1)), (.var 2), (.op .add (.var 2) (.var 3)), (.app 3 [(.var 0), (.op .add (.lit 1) (.var 1)), (.var 2), (.op .add (.var 2) (.var 3)), (.var 4), (.var 5)])]) (.var 4)) (.cmp .leq (.var 4) (.app 6 [(.var 0), (.op .add (.lit 1) (.var 1)), (.var 2), (.op .add (.var 2) (.var 3)), (.app 3 [(.var 0), (.op .add (.lit 1) (.var 1)), (.var 2), (.op .add (.var 2) (.var 3)), (.var 4), (.var 5)])])) (.lit 0)) (.lit 0)) (.lit 0) (.lit 1))) (.lit 1) (.lit 0)))) (.leaf (.bool (.lit false))) (.need (.neg (.and (.cmp .leq (.op .sub (.lit 0) (.var 0)) (.var 0)) (.cmp .lss (.app 3 [(.var 0), (.op .add (.lit 1) (.var 1)), (.var 2), (.op .add (.var 2) (.var 3)), (.app 5 [(.var 0), (.op .add (.lit 1) (.var 1)), (.var 2), (.op .add (.var 2) (.var 3)), (.app 3 [(.var 0), (.op .add (.lit 1) (.var 1)), (.var 2), (.op .add (.var 2) (.var 3)), (.var 4), (.var 5)])]), (.op .sub (.lit 0) (.var 0))]) (.lit (-1099511627776))))) (.ite (.neg (.tst (.app 21 [(.op .sub (.lit 0) (.var 0)), (.lit 0), (.lit (-1099511627776)), (.app 5 [(.var 0), (.op .add (.lit 1) (.var 1)), (.var 2), (.op .add (.var 2) (.var 3)), (.app 3 [(.var 0), (.op .add (.lit 1) (.var 1)), (.var 2), (.op .add (.var 2) (.var 3)), (.var 4), (.var 5)])]), (.var 0), (.var 1), (.var 2), (.var 3), (.app 3 [(.var 0), (.op .add (.lit 1) (.var 1)), (.var 2), (.op .add (.var 2) (.var 3)), (.var 4), (.var 5)])]))) (.leaf (.bool (.lit false))) (.ite (.cmp .lss (.op .sub (.app 5 [(.var 0), (.op .add (.lit 1) (.var 1)), (.var 2), (.op .add (.var 2) (.var 3)), (.app 3 [(.var 0), (.op .add (.lit 1) (.var 1)), (.var 2), (.op .add (.var 2) (.var 3)), (.var 4), (.var 5)])]) (.lit 1)) (.lit (-1099511627776))) (.need (.neg (.and (.cmp .leq (.op .sub (.lit 0) (.var 0)) (.var 0)) (.cmp .lss (.app 3 [(.var 0), (.op .add (.lit 1) (.var 1)), (.var 2), (.op .add (.var 2) (.var 3)), (.app 6 [(.var 0), (.op .add (.lit 1) (.var 1)), (.var 2), (.op .add (.var 2) (.var 3)), (.app 3 [(.var 0), (.op .add (.lit 1) (.var 1)), (.var 2), (.op .add (.var 2) (.var 3)), (.var 4), (.var 5)])]), (.op .sub (.lit 0) (.var 0))]) (.lit (-1099511627776))))) (.ite (.neg (.tst (.app 21 [(.op .sub (.lit 0) (.var 0)), (.lit 0), (.lit (-1099511627776)), (.app 6 [(.var 0), (.op .add (.lit 1) (.var 1)), (.var 2), (.op .add (.var 2) (.var 3)), (.app 3 [(.var 0), (.op .add (.lit 1) (.var 1)), (.var 2), (.op .add (.var 2) (.var 3)), (.var 4), (.var 5)])]), (.var 0), (.var 1), (.var 2), (.var 3), (.app 3 [(.var 0), (.op .add (.lit 1) (.var 1)), (.var 2), (.op .add (.var 2) (.var 3)), (.var 4), (.var 5)])]))) (.leaf (.bool (.lit false))) (.ite (.cmp .gtr (.op .add (.app 6 [(.var 0), (.op .add (.lit 1) (.var 1)), (.var 2), (.op .add (.var 2) (.var 3)), (.app 3 [(.var 0), (.op .add (.lit 1) (.var 1)), (.var 2), (.op .add (.var 2) (.var 3)), (.var 4), (.var 5)])]) (.lit 1)) (.lit 1099511627776)) (.leaf (.bool (.lit true))) (.need (.neg (.and (.cmp .leq (.op .sub (.lit 0) (.var 0)) (.var 0)) (.cmp .lss (.app 3 [(.var 0), (.op .add (.lit 1) (.var 1)), (.var 2), (.op .add (.var 2) (.var 3)), (.op .add (.app 6 [(.var 0), (.op .add (.lit 1) (.var 1)), (.var 2), (.op .add (.var 2) (.var 3)), (.app 3 [(.var 0), (.op .add (.lit 1) (.var 1)), (.var 2), (.op .add (.var 2) (.var 3)), (.var 4), (.var 5)])]) (.lit 1)), (.op .sub (.lit 0) (.var 0))]) (.lit (-1099511627776))))) (.leaf (.bool (.neg (.tst (.app 21 [(.op .sub (.lit 0) (.var 0)), (.lit 0), (.lit (-1099511627776)), (.op .add (.app 6 [(.var 0), (.op .add (.lit 1) (.var 1)), (.var 2), (.op .add (.var 2) (.var 3)), (.app 3 [(.var 0), (.op .add (.lit 1) (.var 1)), (.var 2), (.op .add (.var 2) (.var 3)), (.var 4), (.var 5)])]) (.lit 1)), (.var 0), (.var 1), (.var 2), (.var 3), (.app 3 [(.var 0), (.op .add (.lit 1) (.var 1)), (.var 2), (.op .add (.var 2) (.var 3)), (.var 4), (.var 5)])]))))))))) (.need (.neg (.and (.cmp .leq (.op .sub (.lit 0) (.var 0)) (.var 0)) (.cmp .lss (.app 3 [(.var 0), (.op .add (.lit 1) (.var 1)), (.var 2), (.op .add (.var 2) (.var 3)), (.op .sub (.app 5 [(.var 0), (.op .add (.lit 1) (.var 1)), (.var 2), (.op .add (.var 2) (.var 3)), (.app 3 [(.var 0), (.op .add (.lit 1) (.var 1)), (.var 2), (.op .add (.var 2) (.var 3)), (.var 4), (.var 5)])]) (.lit 1)), (.op .sub (.lit 0) (.var 0))]) (.lit (-1099511627776))))) (.ite (.tst (.app 21 [(.op .sub (.lit 0) (.var 0)), (.lit 0), (.lit (-1099511627776)), (.op .sub (.app 5 [(.var 0), (.op .add (.lit 1) (.var 1)), (.var 2), (.op .add (.var 2) (.var 3)), (.app 3 [(.var 0), (.op .add (.lit 1) (.var 1)), (.var 2), (.op .add (.var 2) (.var 3)), (.var 4), (.var 5)])]) (.lit 1)), (.var 0), (.var 1), (.var 2), (.var 3), (.app 3 [(.var 0), (.op .add (.lit 1) (.var 1)), (.var 2), (.op .add (.var 2) (.var 3)), (.var 4), (.var 5)])])) (.leaf (.bool (.lit false))) (.need (.neg (.and (.cmp .leq (.op .sub (.lit 0) (.var 0)) (.var 0)) (.cmp .lss (.app 3 [(.var 0), (.op .add (.lit 1) (.var 1)), (.var 2), (.op .add (.var 2) (.var 3)), (.app 6 [(.var 0), (.op .add (.lit 1) (.var 1)), (.var 2), (.op .add (.var 2) (.var 3)), (.app 3 [(.var 0), (.op .add (.lit 1) (.var 1)), (.var 2), (.op .add (.var 2) (.var 3)), (.var 4), (.var 5)])]), (.op .sub (.lit 0) (.var 0))]) (.lit (-1099511627776))))) (.ite (.neg (.tst (.app 21 [(.op .sub (.lit 0) (.var 0)), (.lit 0), (.lit (-1099511627776)), (.app 6 [(.var 0), (.op .add (.lit 1) (.var 1)), (.var 2), (.op .add (.var 2) (.var 3)), (.app 3 [(.var 0), (.op .add (.lit 1) (.var 1)), (.var 2), (.op .add (.var 2) (.var 3)), (.var 4), (.var 5)])]), (.var 0), (.var 1), (.var 2), (.var 3), (.app 3 [(.var 0), (.op .add (.lit 1) (.var 1)), (.var 2), (.op .add (.var 2) (.var 3)), (.var 4), (.var 5)])]))) (.leaf (.bool (.lit false))) (.ite (.cmp .gtr (.op .add (.app 6 [(.var 0), (.op .add (.lit 1) (.var 1)), (.var 2), (.op .add (.var 2) (.var 3)), (.app 3 [(.var 0), (.op .add (.lit 1) (.var 1)), (.var 2), (.op .add (.var 2) (.var 3)), (.var 4), (.var 5)])]) (.lit 1)) (.lit 1099511627776)) (.leaf (.bool (.lit true))) (.need (.neg (.and (.cmp .leq (.op .sub (.lit 0) (.var 0)) (.var 0)) (.cmp .lss (.app 3 [(.var 0), (.op .add (.lit 1) (.var 1)), (.var 2), (.op .add (.var 2) (.var 3)), (.op .add (.app 6 [(.var 0), (.op .add (.lit 1) (.var 1)), (.var 2), (.op .add (.var 2) (.var 3)), (.app 3 [(.var 0), (.op .add (.lit 1) (.var 1)), (.var 2), (.op .add (.var 2) (.var 3)), (.var 4), (.var 5)])]) (.lit 1)), (.op .sub (.lit 0) (.var 0))]) (.lit (-1099511627776))))) (.leaf (.bool (.neg (.tst (.app 21 [(.op .sub (.lit 0) (.var 0)), (.lit 0), (.lit (-1099511627776)), (.op .add (.app 6 [(.var 0), (.op .add (.lit 1) (.var 1)), (.var 2), (.op .add (.var 2) (.var 3)), (.app 3 [(.var 0), (.op .add (.lit 1) (.var 1)), (.var 2), (.op .add (.var 2) (.var 3)), (.var 4), (.var 5)])]) (.lit 1)), (.var 0), (.var 1), (.var 2), (.var 3), (.app 3 [(.var 0), (.op .add (.lit 1) (.var 1)), (.var 2), (.op .add (.var 2) (.var 3)), (.var 4), (.var 5)])]))))))))))))))))
theorem tree_vt : tree.vt = vt := by kernel_rfl
theorem factsOK (xs0 : List Int) (xs1 : List Int) (xs2 : List Int) (w0 : Go.SX.wfL ks0 xs0) (w1 : Go.SX.wfL ks1 xs1) (w2 : Go.SX.wfL ks2 xs2) : ∀ be v, (be, v) ∈ facts → be.den (Go.SX.envOf (List.flatten ([xs0, xs1, xs2] : List (List Int))) fn) = v := by simp [facts]
theorem main (xs0 : List Int) (xs1 : List Int) (xs2 : List Int) (w0 : Go.SX.wfL ks0 xs0) (w1 : Go.SX.wfL ks1 xs1) (w2 : Go.SX.wfL ks2 xs2) : vt.holds (Go.SX.envOf (List.flatten ([xs0, xs1, xs2] : List (List Int))) fn) fun v => Go.SX.yes (Go.SX.envOf (List.flatten ([xs0, xs1, xs2] : List (List Int))) fn) v := by
  obtain ⟨N, _, rfl, g0, S, _, rfl, g1, L, _, rfl, g2, W, _, rfl, g3, e⟩ := w0
  rw [show _ = ([] : List Int) from e]
  obtain ⟨x, _, rfl, g4, e⟩ := w1
  rw [show _ = ([] : List Int) from e]
  obtain ⟨z, _, rfl, g5, e⟩ := w2
  rw [show _ = ([] : List Int) from e]
  have r0 : 0 ≤ N ∧ N ≤ 255 := Go.SX.wf_rng (g0 _ rfl)
  have r1 : 0 ≤ S ∧ S ≤ 255 := Go.SX.wf_rng (g1 _ rfl)
  have r2 : -32768 ≤ L ∧ L ≤ 32767 := Go.SX.wf_rng (g2 _ rfl)
  have r3 : 0 ≤ W ∧ W ≤ 65535 := Go.SX.wf_rng (g3 _ rfl)
  have r4 : -32768 ≤ x ∧ x ≤ 32767 := Go.SX.wf_rng (g4 _ rfl)
  clear g0 g1 g2 g3 g4 g5
  have hok : okS N (1 + S) L (L + W) := by unfold okS; omega
  have hx : isQ x := by unfold isQ; omega
  simp only [fn, vt, VT.holds, yes, den_blit, den_lit, den_var, den_ite, den_cmp, den_cmpB, den_tst, den_tstF, den_negT, den_negF, den_andT, den_andF, lssT, leqT, gtrT, geqT, eqlT, neqT, lssF, leqF, gtrF, geqF, eqlF, neqF, den_app, den_nilL, den_consL, den_add, den_sub, den_mul, den_tdiv, den_tmod, den_mx, den_mn, env_v, env_f, List.flatten_cons, List.flatten_nil, List.append_nil, List.cons_append, List.nil_append, List.getD_cons_zero, List.getD_cons_succ, List.getD_nil, sfn3, sfn4, sfn5, sfn6, sfn7, sfn21]
  by_cases hz : -N ≤ z ∧ z ≤ N
  · have hp := shV_poss hok hx hz
    rw [shE_in hok hx hz]
    have hs := (shown_iff hok hx hp).1 (shown_self hok hx hz)
    have hb := ends_bd hok hp
    have F : ∀ y, isQ y → ((∃ m, 0 - N ≤ m ∧ m ≤ N ∧ shV N (1 + S) L (L + W) y m = shV N (1 + S) L (L + W) x z) ↔ lo1 N (1 + S) L (shV N (1 + S) L (L + W) x z) ≤ y ∧ y ≤ hi1 N (1 + S) (L + W) (shV N (1 + S) L (L + W) x z)) := by
      intro y hy
      rw [← shown_iff hok hy hp]
      constructor
      · rintro ⟨m, h1, h2, h3⟩
        exact ⟨m, by omega, by rw [← shV_in hok hy (by omega)]; exact h3⟩
      · rintro ⟨m, h1, h2⟩
        exact ⟨m, by omega, by omega, by rw [shV_in hok hy h1]; exact h2⟩
    have B : ∀ y m, -1099511627776 ≤ shV N (1 + S) L (L + W) y m := by
      intro y m; have := shV_bd N (1 + S) L (L + W) y m; omega
    simp only [B, or_true, true_and]
    generalize shV N (1 + S) L (L + W) x z = r at *
    have e5 : bLo N (1 + S) L (L + W) r = lo1 N (1 + S) L r := by unfold bLo; rw [if_pos ⟨hok, hp⟩]
    have e6 : bHi N (1 + S) L (L + W) r = hi1 N (1 + S) (L + W) r := by unfold bHi; rw [if_pos ⟨hok, hp⟩]
    have e7 : bE N (1 + S) L (L + W) r = 0 := by unfold bE; rw [if_pos hok, if_pos hp]
    rw [e5, e6, e7]
    generalize lo1 N (1 + S) L r = p at *
    generalize hi1 N (1 + S) (L + W) r = q at *
    have P0 := (F p (by unfold isQ; omega)).2 (by omega)
    have P1 := (F q (by unfold isQ; omega)).2 (by omega)
    have P2 : q + 1 ≤ 1099511627776 → ¬ _ := fun h => mt (F (q + 1) (by unfold isQ; omega)).1 (by omega)
    have P3 : -1099511627776 ≤ p - 1 → ¬ _ := fun h => mt (F (p - 1) (by unfold isQ; omega)).1 (by omega)
    clear F B hok e5 e6 e7 hp hx
    simp only [P0, P1, or_true, if_true]
    generalize (∃ m, 0 - N ≤ m ∧ m ≤ N ∧ shV N (1 + S) L (L + W) (q + 1) m = r) = Q2 at *
    generalize (∃ m, 0 - N ≤ m ∧ m ≤ N ∧ shV N (1 + S) L (L + W) (p - 1) m = r) = Q3 at *
    grind
  · rw [shE_out hok hx hz]
    refine ⟨fun _ => rfl, fun hq => ?_⟩
    exfalso
    revert hq
    grind
theorem walk (xs0 : List Int) (xs1 : List Int) (xs2 : List Int) (w0 : Go.SX.wfL ks0 xs0) (w1 : Go.SX.wfL ks1 xs1) (w2 : Go.SX.wfL ks2 xs2) (w : World) :
    Calls Try.prog 5 #[.agg (Go.SX.valsL ks0 xs0).toArray, (Go.SX.valsL ks1 xs1).getD 0 undef, (Go.SX.valsL ks2 xs2).getD 0 undef] w fun e w' => e = .returned (.bool true) ∧ Below w.heap.size w w' :=
  Go.SX.calls_facts (P := Try.prog) (X := X) (l := sig) (r := [xs0, xs1, xs2]) (fn := fn) (n := 1000) (f := 5) (w := w) (facts := facts) (d := 5) mix XOK (⟨xs0, _, rfl, w0, (fun h => by cases h), ⟨xs1, _, rfl, w1, (fun _ => rfl), ⟨xs2, _, rfl, w2, (fun _ => rfl), rfl⟩⟩⟩) (factsOK xs0 xs1 xs2 w0 w1 w2) tree_eq
    (Go.SX.PT.holds_vt (by rw [tree_vt]; exact main xs0 xs1 xs2 w0 w1 w2))

set_option maxRecDepth 100000 in
theorem lifted (os : Os) (started : os.Started) (H : Type) (enc : TypeId × Value → H) :
    ReturnsInHanded {} Try.checked os 5 .any (Rows.estimateBehindSpec.pre6 enc Try.prog Try.f5 Rows.estimateBehindRow.domain false) (Rows.estimateBehindSpec.post enc Try.prog Try.f5 false true false false) := by
  refine returnsInHanded_of_change (C := Try.checked) own started (by kernel_rfl) Try.func5
    (ChangeSpec.witness6 (enc := enc) (C := Try.checked) false ⟨#[], #[.agg #[.int .u8 0, .int .u8 0, .int .i16 0, .int .u16 0], .int .i16 0, .int .i8 0], []⟩ 8 (by kernel_rfl) (by kernel_rfl) (by kernel_rfl) (by kernel_rfl)) ?_
  intro W base args ds gs before hval0 hW hcnd _
  have hval : ∀ (j : Nat) t v, Try.f5.params[j]? = some t → args[j]? = some v → Value.okWide Try.prog W .any base t v := hval0
  have hW' := hW
  obtain ⟨p, q, hA0, hV, rfl, hfz, hnd⟩ := hW
  have hA : DataW.TrodAll enc Try.prog W 0 (fun _ => true) true Try.f5.params.toList args.toList ds p := hA0
  rw [Try.params5] at hA hval
  obtain ⟨v0, vs0, d0, ds0, p0, q0, hargs, rfl, rfl, h0, r0⟩ := trodAll_cons hA
  obtain ⟨v1, vs1, d1, ds1, p1, q1, rfl, rfl, rfl, h1, r1⟩ := trodAll_cons r0
  obtain ⟨v2, vs2, d2, ds2, p2, q2, rfl, rfl, rfl, h2, r2⟩ := trodAll_cons r1
  obtain ⟨rfl, rfl, rfl⟩ := trodAll_nil r2
  obtain rfl : args = #[v0, v1, v2] := by cases args; simp_all
  obtain ⟨rfl, rfl⟩ := trodVars_none hV
  have k0 := h0
  have lt0 : ∀ x ∈ p0, x.block < W.heap.size := by obtain ⟨m, hm⟩ := k0; exact DataW.trod_lt m _ _ _ hm
  obtain ⟨xs0, rfl, w0⟩ := Go.SX.open_flat Try.underlying44 40 (ks := ks0) (by kernel_rfl) (by kernel_rfl) (hval 0 44 v0 rfl rfl) h0
  have k1 := h1
  have lt1 : ∀ x ∈ p1, x.block < W.heap.size := by obtain ⟨m, hm⟩ := k1; exact DataW.trod_lt m _ _ _ hm
  obtain ⟨xs1, rfl, w1⟩ := Go.SX.open_flat1 (k := some .i16) Try.underlying41 (hval 1 41 v1 rfl rfl) h1
  have k2 := h2
  have lt2 : ∀ x ∈ p2, x.block < W.heap.size := by obtain ⟨m, hm⟩ := k2; exact DataW.trod_lt m _ _ _ hm
  obtain ⟨xs2, rfl, w2⟩ := Go.SX.open_flat1 (k := some .i8) Try.underlying45 (hval 2 45 v2 rfl rfl) h2
  clear hA0 hval0
  refine (walk xs0 xs1 xs2 w0 w1 w2 W).mono fun e W' ⟨he, bel⟩ => ?_
  subst he
  exact ⟨_, rfl, _, _, _, [], _, [], hW', trodAll_mk1 (shut_bool Try.underlying4 _), (trodAll_cons_mk (Below.trod laidOut (by kernel_rfl) (of_decide_eq_true (by kernel_rfl)) k0 bel lt0) (trodAll_cons_mk (Below.trod laidOut (by kernel_rfl) (of_decide_eq_true (by kernel_rfl)) k1 bel lt1) (trodAll_cons_mk (Below.trod laidOut (by kernel_rfl) (of_decide_eq_true (by kernel_rfl)) k2 bel lt2) trodAll_mk0))), rfl, bel.frame _, fun h => by cases h⟩

theorem over : Rows.estimateBehindRow.holds Try.pinned (OpenSpec.ofChange Rows.estimateBehindSpec) :=
  OpenClaim.holds_of_wide 5 Try.f5 rfl rfl rfl rfl rfl rfl rfl ⟨rfl, rfl, rfl, rfl, rfl⟩ rfl rfl rfl rfl rfl (by kernel_rfl) Try.func5 (by kernel_rfl)
    (of_decide_eq_true (by kernel_rfl)) (by unfold Func.isWrapper; first | (rw [if_pos (by decide +kernel)]; kernel_rfl) | (rw [if_neg (by decide +kernel)]; exact ⟨rfl, rfl⟩))
    (fun os started H enc _ => lifted os started H enc)

/-- THE STATEMENT -/
theorem proved : Rows.EstimateBehindSaid := over
#print axioms proved
end Go.Proofs.Ytbabgjpjfjlniaa.estimateBehind
