/- The law EstimateFused answers true for every input: if at most f of the spans do not contain a number, the fused span contains it; with none it is the meeting of all, and with one liar more it is not smaller; no condition beyond the row's own. The call is reckoned in a store of named blocks (the texts Sw1 to Sw28), in every order that the model may draw. -/
import Derived.Test.YtkdmnjpkimnmbaaRows
import Derived.WalkKit
import Derived.ProofKit
import Derived.OpenShut
import Derived.Below
import Derived.ChangeOld
import Derived.Test.YtkdmnjpkimnmbaaSw43
import Derived.Test.YtkdmnjpkimnmbaaGb
namespace Go.Proofs.Ytkdmnjpkimnmbaa.estimateFused
open Go.ChangeShapes Go.WideShapes Go.ChangeAt Go.RowKit
set_option linter.unusedVariables false
set_option linter.unusedSimpArgs false

theorem own : ownKnob Try.prog.godebug = none := by kernel_rfl
theorem laidOut : laidOutB Try.prog = true := by kernel_rfl
theorem mix : Try.prog.follows .mixedOrders = true := by kernel_rfl
def ks0 : List (Option IntKind) := [some .i64, some .i64]
def ks1 : List (Option IntKind) := [some .i64]
def gr : Go.SX.Grp := [none, none]
def sh : List Go.SX.PSh := [.row ks0] ++ ([.flat false ks1] ++ [])
/-- the functions of the loops, over those of the rows -/
noncomputable def fnL (g : Nat → List Int → Int) : Nat → List Int → Int := cfn g
noncomputable def fnP (pv : List Go.SX.PV) : Nat → List Int → Int := fnL (Go.SX.withRows (Go.SX.rowed fun _ _ => 0) sh pv)
theorem fnP_high (pv : List Go.SX.PV) (k : Nat) (a : List Int) (h : 1000 ≤ k) : fnP pv k a = Go.SX.withRows (Go.SX.rowed fun _ _ => 0) sh pv k a := cfn_high _ k a h
theorem fnP_rowFn (pv : List Go.SX.PV) : Go.SX.RowFn (fnP pv) := fun k a h1 h2 => by rw [fnP_high pv k a h1, Go.SX.withRows_low h2]; exact Go.SX.rowed_rows _ k a h1 h2
theorem fnP_rows (pv : List Go.SX.PV) : Go.SX.FnRows (fnP pv) sh pv 0 := Go.SX.rowVal_rows (by rfl) fun k a x hk hx => by
  rw [fnP_high pv k a (by unfold Go.SX.rowF at hk; omega)]
  unfold Go.SX.withRows; rw [hx]
theorem law_run : (Go.SX.run (Go.SX.callT Try.prog XDc 100000 4 (Go.SX.grp .agg gr (Go.SX.shArgs sh 0 0)) (Go.SX.shCtx sh [] 0)) (Go.SX.shSt sh)).vt = vtD := by kernel_rfl
theorem law_ways (pv : List Go.SX.PV) (w : World) (hw : Go.SX.pvAll w sh pv) : Go.SX.WaysP (fun cx => ∃ X, Go.SX.ParOK Try.prog (fnP pv) X ∧ (Go.SX.run (Go.SX.callT Try.prog X 100000 4 (Go.SX.grp .agg gr (Go.SX.shArgs sh 0 0)) cx) (Go.SX.shSt sh)).vt.holds (Go.SX.envOf (Go.SX.pvNums pv) (fnP pv)) fun v => Go.SX.yes (Go.SX.envOf (Go.SX.pvNums pv) (fnP pv)) v) (Go.SX.shCtx sh [] 0) := by
  have hg : Good2 (fnP pv) := (good2_of _ fun k a h1 h2 => by rw [Go.SX.withRows_low h2]; exact Go.SX.rowed_rows _ k a h1 h2)
  refine .one ⟨XDc, XD_ok hg, ?_⟩
  rw [law_run]
  exact d_core (env := Go.SX.envOf (Go.SX.pvNums pv) (fnP pv)) hg
theorem walkAll (pv : List Go.SX.PV) (w : World) (hw : Go.SX.pvAll w sh pv) : Calls Try.prog 4 (Go.SX.grp Go.SX.aggV gr (Go.SX.pvVals sh pv)).toArray w fun e w' => e = .returned (.bool true) ∧ Below w.heap.size w w' :=
  Go.SX.calls_waysG (fn := fnP pv) (n := 100000) (d := 0) mix hw (fnP_rows pv) (law_ways pv w hw)
theorem grp_mix {w : World} {k : Nat} {g : Go.SX.Grp} {a b : List Go.SX.PSh} {p q : List Go.SX.PV} (h : Go.SX.pvAll w a p) (h' : Go.SX.pvAll w b q) (hk : a.length = k) : Go.SX.grp Go.SX.aggV (some k :: g) (Go.SX.pvVals (a ++ b) (p ++ q)) = .agg (Go.SX.pvVals a p).toArray :: Go.SX.grp Go.SX.aggV g (Go.SX.pvVals b q) := by
  rw [(Go.SX.pvAll_append h h').2]
  have hl : (Go.SX.pvVals a p).length = k := by rw [Go.SX.pvVals_length h, hk]
  simp only [Go.SX.grp]
  rw [← hl, List.take_left, List.drop_left]
  rfl
theorem walk (w : World) (v0 : Value) (D0 : Go.SX.RowD) (xs1 : List Int) (l0 : (D0.len : Int) ≤ 9223372036854775807) (w0 : ∃ r o, Go.SX.RowIs w ks0 D0 v0 r o) (w1 : Go.SX.wfL ks1 xs1) :
    Calls Try.prog 4 #[v0, (Go.SX.valsL ks1 xs1).getD 0 undef] w fun e w' => e = .returned (.bool true) ∧ Below w.heap.size w w' := by
  have hz : Go.SX.pvAll w [] [] := rfl
  have a1 : Go.SX.pvAll w [.flat false ks1] [(Go.SX.PV.flat xs1)] := ⟨_, _, rfl, ⟨w1, (fun _ => rfl)⟩, rfl⟩
  have b1 : Go.SX.pvAll w ([.flat false ks1] ++ []) ([(Go.SX.PV.flat xs1)] ++ []) := (Go.SX.pvAll_append a1 hz).1
  have a0 : Go.SX.pvAll w [.row ks0] [(Go.SX.PV.row D0 v0)] := ⟨_, _, rfl, ⟨l0, w0⟩, rfl⟩
  have b0 : Go.SX.pvAll w ([.row ks0] ++ ([.flat false ks1] ++ [])) ([(Go.SX.PV.row D0 v0)] ++ ([(Go.SX.PV.flat xs1)] ++ [])) := (Go.SX.pvAll_append a0 b1).1
  have k := walkAll ([(Go.SX.PV.row D0 v0)] ++ ([(Go.SX.PV.flat xs1)] ++ [])) w b0
  have ez : Go.SX.grp Go.SX.aggV [] (Go.SX.pvVals [] []) = ([] : List Value) := rfl
  have e1 : Go.SX.grp Go.SX.aggV [none] (Go.SX.pvVals ([.flat false ks1] ++ []) ([(Go.SX.PV.flat xs1)] ++ [])) = [(Go.SX.valsL ks1 xs1).getD 0 undef] := congrArg _ ez
  have e0 : Go.SX.grp Go.SX.aggV [none, none] (Go.SX.pvVals ([.row ks0] ++ ([.flat false ks1] ++ [])) ([(Go.SX.PV.row D0 v0)] ++ ([(Go.SX.PV.flat xs1)] ++ []))) = [v0, (Go.SX.valsL ks1 xs1).getD 0 undef] := congrArg _ e1
  rw [show Go.SX.grp Go.SX.aggV gr (Go.SX.pvVals sh ([(Go.SX.PV.row D0 v0)] ++ ([(Go.SX.PV.flat xs1)] ++ []))) = _ from e0] at k
  exact k


set_option maxRecDepth 100000 in
theorem lifted (os : Os) (started : os.Started) (H : Type) (enc : TypeId × Value → H) :
    ReturnsInHanded {} Try.checked os 4 .any (Rows.estimateFusedSpec.pre6 enc Try.prog Try.f4 Rows.estimateFusedRow.domain false) (Rows.estimateFusedSpec.post enc Try.prog Try.f4 false true false false) := by
  refine returnsInHanded_of_change (C := Try.checked) own started (by kernel_rfl) Try.func4
    (ChangeSpec.witness6 (enc := enc) (C := Try.checked) false ⟨#[], #[.slice none 0 0, .int .i64 0], []⟩ 8 (by kernel_rfl) (by kernel_rfl) (by kernel_rfl) (by kernel_rfl)) ?_
  intro W base args ds gs before hval0 hW hcnd _
  have hval : ∀ (j : Nat) t v, Try.f4.params[j]? = some t → args[j]? = some v → Value.okWide Try.prog W .any base t v := hval0
  have hW' := hW
  obtain ⟨p, q, hA0, hV, rfl, hfz, hnd⟩ := hW
  have hA : DataW.TrodAll enc Try.prog W 0 (fun _ => true) true Try.f4.params.toList args.toList ds p := hA0
  rw [Try.params4] at hA hval
  obtain ⟨v0, vs0, d0, ds0, p0, q0, hargs, rfl, rfl, h0, r0⟩ := trodAll_cons hA
  obtain ⟨v1, vs1, d1, ds1, p1, q1, rfl, rfl, rfl, h1, r1⟩ := trodAll_cons r0
  obtain ⟨rfl, rfl, rfl⟩ := trodAll_nil r1
  obtain rfl : args = #[v0, v1] := by cases args; simp_all
  obtain ⟨rfl, rfl⟩ := trodVars_none hV
  have k0 := h0
  have lt0 : ∀ x ∈ p0, x.block < W.heap.size := by obtain ⟨m, hm⟩ := k0; exact DataW.trod_lt m _ _ _ hm
  obtain ⟨D0, l0, w0⟩ := Go.SX.open_row Try.underlying22 40 (ks := ks0) (by kernel_rfl) (by kernel_rfl) (by decide) (hval 0 22 v0 rfl rfl) h0
  have k1 := h1
  have lt1 : ∀ x ∈ p1, x.block < W.heap.size := by obtain ⟨m, hm⟩ := k1; exact DataW.trod_lt m _ _ _ hm
  obtain ⟨xs1, rfl, w1⟩ := Go.SX.open_flat1 (k := some .i64) Try.underlying2 (hval 1 2 v1 rfl rfl) h1
  clear hA0 hval0
  refine (walk W v0 D0 xs1 l0 w0 w1).mono fun e W' ⟨he, bel⟩ => ?_
  subst he
  exact ⟨_, rfl, _, _, _, [], _, [], hW', trodAll_mk1 (shut_bool Try.underlying4 _), (trodAll_cons_mk (Below.trod laidOut (by kernel_rfl) (of_decide_eq_true (by kernel_rfl)) k0 bel lt0) (trodAll_cons_mk (Below.trod laidOut (by kernel_rfl) (of_decide_eq_true (by kernel_rfl)) k1 bel lt1) trodAll_mk0)), rfl, bel.frame _, fun h => by cases h⟩

theorem over : Rows.estimateFusedRow.holds Try.pinned (OpenSpec.ofChange Rows.estimateFusedSpec) :=
  OpenClaim.holds_of_wide 4 Try.f4 rfl rfl rfl rfl rfl rfl rfl ⟨rfl, rfl, rfl, rfl, rfl⟩ rfl rfl rfl rfl rfl (by kernel_rfl) Try.func4 (by kernel_rfl)
    (of_decide_eq_true (by kernel_rfl)) (by unfold Func.isWrapper; first | (rw [if_pos (by decide +kernel)]; kernel_rfl) | (rw [if_neg (by decide +kernel)]; exact ⟨rfl, rfl⟩))
    (fun os started H enc _ => lifted os started H enc)

/-- THE STATEMENT -/
theorem proved : Rows.EstimateFusedSaid := over
#print axioms proved
end Go.Proofs.Ytkdmnjpkimnmbaa.estimateFused
