/- The law ChargeCosts answers true for every input: the cost of energies is that of their parts but for one, signs are right, and bands repeat each day; no condition beyond the row's own. The call is reckoned in a store of named blocks (the texts Sw1 to Sw28), in every order that the model may draw. -/
import Derived.Test.YtlbmeamjgdgbmaaRows
import Derived.WalkKit
import Derived.ProofKit
import Derived.OpenShut
import Derived.Below
import Derived.ChangeOld
import Derived.Test.YtlbmeamjgdgbmaaSw42
import Derived.Test.YtlbmeamjgdgbmaaTc
namespace Go.Proofs.Ytlbmeamjgdgbmaa.chargeCosts
open Go.ChangeShapes Go.WideShapes Go.ChangeAt Go.RowKit
set_option linter.unusedVariables false
set_option linter.unusedSimpArgs false

theorem own : ownKnob Try.prog.godebug = none := by kernel_rfl
theorem laidOut : laidOutB Try.prog = true := by kernel_rfl
theorem mix : Try.prog.follows .mixedOrders = true := by kernel_rfl
def ks0 : List Go.SX.PSh := [.flat false [some .i64], .row [some .i64, some .i64, some .i64], .flat false [some .i64]]
def ks1 : List (Option IntKind) := [some .u32]
def ks2 : List (Option IntKind) := [some .u32]
def ks3 : List (Option IntKind) := [some .u32]
def ks4 : List (Option IntKind) := [some .u8]
def gr : Go.SX.Grp := [some 3, none, none, none, none]
def sh : List Go.SX.PSh := ks0 ++ ([.flat false ks1] ++ ([.flat false ks2] ++ ([.flat false ks3] ++ ([.flat false ks4] ++ []))))
/-- the functions of the loops, over those of the rows -/
noncomputable def fnL (g : Nat → List Int → Int) : Nat → List Int → Int := bfn g
noncomputable def fnP (pv : List Go.SX.PV) : Nat → List Int → Int := fnL (Go.SX.withRows (Go.SX.rowed fun _ _ => 0) sh pv)
theorem fnP_high (pv : List Go.SX.PV) (k : Nat) (a : List Int) (h : 1000 ≤ k) : fnP pv k a = Go.SX.withRows (Go.SX.rowed fun _ _ => 0) sh pv k a := bfn_high _ k a h
theorem fnP_rowFn (pv : List Go.SX.PV) : Go.SX.RowFn (fnP pv) := fun k a h1 h2 => by rw [fnP_high pv k a h1, Go.SX.withRows_low h2]; exact Go.SX.rowed_rows _ k a h1 h2
theorem fnP_rows (pv : List Go.SX.PV) : Go.SX.FnRows (fnP pv) sh pv 0 := Go.SX.rowVal_rows (by rfl) fun k a x hk hx => by
  rw [fnP_high pv k a (by unfold Go.SX.rowF at hk; omega)]
  unfold Go.SX.withRows; rw [hx]
theorem law_run : (Go.SX.run (Go.SX.callT Try.prog XW 100000 6 (Go.SX.grp .agg gr (Go.SX.shArgs sh 0 0)) (Go.SX.shCtx sh [] 0)) (Go.SX.shSt sh)).vt = vtC := by kernel_rfl
theorem law_ways (pv : List Go.SX.PV) (w : World) (hw : Go.SX.pvAll w sh pv) : Go.SX.WaysP (fun cx => ∃ X, Go.SX.ParOK Try.prog (fnP pv) X ∧ (Go.SX.run (Go.SX.callT Try.prog X 100000 6 (Go.SX.grp .agg gr (Go.SX.shArgs sh 0 0)) cx) (Go.SX.shSt sh)).vt.holds (Go.SX.envOf (Go.SX.pvNums pv) (fnP pv)) fun v => Go.SX.yes (Go.SX.envOf (Go.SX.pvNums pv) (fnP pv)) v) (Go.SX.shCtx sh [] 0) := by
  have hg : Good (fnP pv) := (good_of _ fun k a h1 h2 => by rw [Go.SX.withRows_low h2]; exact Go.SX.rowed_rows _ k a h1 h2)
  refine .one ⟨XW, XW_ok hg, ?_⟩
  rw [law_run]
  obtain ⟨p0, _, rfl, g0, p1, _, rfl, g1, p2, _, rfl, g2, p3, _, rfl, g3, p4, _, rfl, g4, p5, _, rfl, g5, p6, _, rfl, g6, e⟩ := hw
  rw [show _ = ([] : List Go.SX.PV) from e] at hg ⊢
  obtain ⟨d, rfl, hd⟩ := Go.SX.flatI g0
  obtain ⟨fe, rfl, hfe⟩ := Go.SX.flatI g2
  obtain ⟨a, rfl, ha⟩ := Go.SX.flatI g3
  obtain ⟨b, rfl, hb⟩ := Go.SX.flatI g4
  obtain ⟨c, rfl, hc⟩ := Go.SX.flatI g5
  obtain ⟨y, rfl, hy⟩ := Go.SX.flatI g6
  cases p1 with
  | flat xs => exact g1.elim
  | row D v => exact c_core (env := Go.SX.envOf [d, D.len, fe, a, b, c, y] (fnP [.flat [d], .row D v, .flat [fe], .flat [a], .flat [b], .flat [c], .flat [y]])) hg ha.1 hb hc hy
theorem walkAll (pv : List Go.SX.PV) (w : World) (hw : Go.SX.pvAll w sh pv) : Calls Try.prog 6 (Go.SX.grp Go.SX.aggV gr (Go.SX.pvVals sh pv)).toArray w fun e w' => e = .returned (.bool true) ∧ Below w.heap.size w w' :=
  Go.SX.calls_waysG (fn := fnP pv) (n := 100000) (d := 0) mix hw (fnP_rows pv) (law_ways pv w hw)
theorem grp_mix {w : World} {k : Nat} {g : Go.SX.Grp} {a b : List Go.SX.PSh} {p q : List Go.SX.PV} (h : Go.SX.pvAll w a p) (h' : Go.SX.pvAll w b q) (hk : a.length = k) : Go.SX.grp Go.SX.aggV (some k :: g) (Go.SX.pvVals (a ++ b) (p ++ q)) = .agg (Go.SX.pvVals a p).toArray :: Go.SX.grp Go.SX.aggV g (Go.SX.pvVals b q) := by
  rw [(Go.SX.pvAll_append h h').2]
  have hl : (Go.SX.pvVals a p).length = k := by rw [Go.SX.pvVals_length h, hk]
  simp only [Go.SX.grp]
  rw [← hl, List.take_left, List.drop_left]
  rfl
theorem walk (w : World) (xs0 : List Go.SX.PV) (xs1 : List Int) (xs2 : List Int) (xs3 : List Int) (xs4 : List Int) (w0 : Go.SX.pvAll w ks0 xs0) (w1 : Go.SX.wfL ks1 xs1) (w2 : Go.SX.wfL ks2 xs2) (w3 : Go.SX.wfL ks3 xs3) (w4 : Go.SX.wfL ks4 xs4) :
    Calls Try.prog 6 #[.agg (Go.SX.pvVals ks0 xs0).toArray, (Go.SX.valsL ks1 xs1).getD 0 undef, (Go.SX.valsL ks2 xs2).getD 0 undef, (Go.SX.valsL ks3 xs3).getD 0 undef, (Go.SX.valsL ks4 xs4).getD 0 undef] w fun e w' => e = .returned (.bool true) ∧ Below w.heap.size w w' := by
  have hz : Go.SX.pvAll w [] [] := rfl
  have a4 : Go.SX.pvAll w [.flat false ks4] [(Go.SX.PV.flat xs4)] := ⟨_, _, rfl, ⟨w4, (fun _ => rfl)⟩, rfl⟩
  have b4 : Go.SX.pvAll w ([.flat false ks4] ++ []) ([(Go.SX.PV.flat xs4)] ++ []) := (Go.SX.pvAll_append a4 hz).1
  have a3 : Go.SX.pvAll w [.flat false ks3] [(Go.SX.PV.flat xs3)] := ⟨_, _, rfl, ⟨w3, (fun _ => rfl)⟩, rfl⟩
  have b3 : Go.SX.pvAll w ([.flat false ks3] ++ ([.flat false ks4] ++ [])) ([(Go.SX.PV.flat xs3)] ++ ([(Go.SX.PV.flat xs4)] ++ [])) := (Go.SX.pvAll_append a3 b4).1
  have a2 : Go.SX.pvAll w [.flat false ks2] [(Go.SX.PV.flat xs2)] := ⟨_, _, rfl, ⟨w2, (fun _ => rfl)⟩, rfl⟩
  have b2 : Go.SX.pvAll w ([.flat false ks2] ++ ([.flat false ks3] ++ ([.flat false ks4] ++ []))) ([(Go.SX.PV.flat xs2)] ++ ([(Go.SX.PV.flat xs3)] ++ ([(Go.SX.PV.flat xs4)] ++ []))) := (Go.SX.pvAll_append a2 b3).1
  have a1 : Go.SX.pvAll w [.flat false ks1] [(Go.SX.PV.flat xs1)] := ⟨_, _, rfl, ⟨w1, (fun _ => rfl)⟩, rfl⟩
  have b1 : Go.SX.pvAll w ([.flat false ks1] ++ ([.flat false ks2] ++ ([.flat false ks3] ++ ([.flat false ks4] ++ [])))) ([(Go.SX.PV.flat xs1)] ++ ([(Go.SX.PV.flat xs2)] ++ ([(Go.SX.PV.flat xs3)] ++ ([(Go.SX.PV.flat xs4)] ++ [])))) := (Go.SX.pvAll_append a1 b2).1
  have a0 : Go.SX.pvAll w ks0 xs0 := w0
  have b0 : Go.SX.pvAll w (ks0 ++ ([.flat false ks1] ++ ([.flat false ks2] ++ ([.flat false ks3] ++ ([.flat false ks4] ++ []))))) (xs0 ++ ([(Go.SX.PV.flat xs1)] ++ ([(Go.SX.PV.flat xs2)] ++ ([(Go.SX.PV.flat xs3)] ++ ([(Go.SX.PV.flat xs4)] ++ []))))) := (Go.SX.pvAll_append a0 b1).1
  have k := walkAll (xs0 ++ ([(Go.SX.PV.flat xs1)] ++ ([(Go.SX.PV.flat xs2)] ++ ([(Go.SX.PV.flat xs3)] ++ ([(Go.SX.PV.flat xs4)] ++ []))))) w b0
  have ez : Go.SX.grp Go.SX.aggV [] (Go.SX.pvVals [] []) = ([] : List Value) := rfl
  have e4 : Go.SX.grp Go.SX.aggV [none] (Go.SX.pvVals ([.flat false ks4] ++ []) ([(Go.SX.PV.flat xs4)] ++ [])) = [(Go.SX.valsL ks4 xs4).getD 0 undef] := congrArg _ ez
  have e3 : Go.SX.grp Go.SX.aggV [none, none] (Go.SX.pvVals ([.flat false ks3] ++ ([.flat false ks4] ++ [])) ([(Go.SX.PV.flat xs3)] ++ ([(Go.SX.PV.flat xs4)] ++ []))) = [(Go.SX.valsL ks3 xs3).getD 0 undef, (Go.SX.valsL ks4 xs4).getD 0 undef] := congrArg _ e4
  have e2 : Go.SX.grp Go.SX.aggV [none, none, none] (Go.SX.pvVals ([.flat false ks2] ++ ([.flat false ks3] ++ ([.flat false ks4] ++ []))) ([(Go.SX.PV.flat xs2)] ++ ([(Go.SX.PV.flat xs3)] ++ ([(Go.SX.PV.flat xs4)] ++ [])))) = [(Go.SX.valsL ks2 xs2).getD 0 undef, (Go.SX.valsL ks3 xs3).getD 0 undef, (Go.SX.valsL ks4 xs4).getD 0 undef] := congrArg _ e3
  have e1 : Go.SX.grp Go.SX.aggV [none, none, none, none] (Go.SX.pvVals ([.flat false ks1] ++ ([.flat false ks2] ++ ([.flat false ks3] ++ ([.flat false ks4] ++ [])))) ([(Go.SX.PV.flat xs1)] ++ ([(Go.SX.PV.flat xs2)] ++ ([(Go.SX.PV.flat xs3)] ++ ([(Go.SX.PV.flat xs4)] ++ []))))) = [(Go.SX.valsL ks1 xs1).getD 0 undef, (Go.SX.valsL ks2 xs2).getD 0 undef, (Go.SX.valsL ks3 xs3).getD 0 undef, (Go.SX.valsL ks4 xs4).getD 0 undef] := congrArg _ e2
  have e0 : Go.SX.grp Go.SX.aggV [some 3, none, none, none, none] (Go.SX.pvVals (ks0 ++ ([.flat false ks1] ++ ([.flat false ks2] ++ ([.flat false ks3] ++ ([.flat false ks4] ++ []))))) (xs0 ++ ([(Go.SX.PV.flat xs1)] ++ ([(Go.SX.PV.flat xs2)] ++ ([(Go.SX.PV.flat xs3)] ++ ([(Go.SX.PV.flat xs4)] ++ [])))))) = [.agg (Go.SX.pvVals ks0 xs0).toArray, (Go.SX.valsL ks1 xs1).getD 0 undef, (Go.SX.valsL ks2 xs2).getD 0 undef, (Go.SX.valsL ks3 xs3).getD 0 undef, (Go.SX.valsL ks4 xs4).getD 0 undef] := (grp_mix a0 b1 rfl).trans (congrArg _ e1)
  rw [show Go.SX.grp Go.SX.aggV gr (Go.SX.pvVals sh (xs0 ++ ([(Go.SX.PV.flat xs1)] ++ ([(Go.SX.PV.flat xs2)] ++ ([(Go.SX.PV.flat xs3)] ++ ([(Go.SX.PV.flat xs4)] ++ [])))))) = _ from e0] at k
  exact k


set_option maxRecDepth 100000 in
theorem lifted (os : Os) (started : os.Started) (H : Type) (enc : TypeId × Value → H) :
    ReturnsInHanded {} Try.checked os 6 .any (Rows.chargeCostsSpec.pre6 enc Try.prog Try.f6 Rows.chargeCostsRow.domain false) (Rows.chargeCostsSpec.post enc Try.prog Try.f6 false true false false) := by
  refine returnsInHanded_of_change (C := Try.checked) own started (by kernel_rfl) Try.func6
    (ChangeSpec.witness6 (enc := enc) (C := Try.checked) false ⟨#[], #[.agg #[.int .i64 0, .slice none 0 0, .int .i64 0], .int .u32 0, .int .u32 0, .int .u32 0, .int .u8 0], []⟩ 8 (by kernel_rfl) (by kernel_rfl) (by kernel_rfl) (by kernel_rfl)) ?_
  intro W base args ds gs before hval0 hW hcnd _
  have hval : ∀ (j : Nat) t v, Try.f6.params[j]? = some t → args[j]? = some v → Value.okWide Try.prog W .any base t v := hval0
  have hW' := hW
  obtain ⟨p, q, hA0, hV, rfl, hfz, hnd⟩ := hW
  have hA : DataW.TrodAll enc Try.prog W 0 (fun _ => true) true Try.f6.params.toList args.toList ds p := hA0
  rw [Try.params6] at hA hval
  obtain ⟨v0, vs0, d0, ds0, p0, q0, hargs, rfl, rfl, h0, r0⟩ := trodAll_cons hA
  obtain ⟨v1, vs1, d1, ds1, p1, q1, rfl, rfl, rfl, h1, r1⟩ := trodAll_cons r0
  obtain ⟨v2, vs2, d2, ds2, p2, q2, rfl, rfl, rfl, h2, r2⟩ := trodAll_cons r1
  obtain ⟨v3, vs3, d3, ds3, p3, q3, rfl, rfl, rfl, h3, r3⟩ := trodAll_cons r2
  obtain ⟨v4, vs4, d4, ds4, p4, q4, rfl, rfl, rfl, h4, r4⟩ := trodAll_cons r3
  obtain ⟨rfl, rfl, rfl⟩ := trodAll_nil r4
  obtain rfl : args = #[v0, v1, v2, v3, v4] := by cases args; simp_all
  obtain ⟨rfl, rfl⟩ := trodVars_none hV
  have k0 := h0
  have lt0 : ∀ x ∈ p0, x.block < W.heap.size := by obtain ⟨m, hm⟩ := k0; exact DataW.trod_lt m _ _ _ hm
  obtain ⟨xs0, rfl, w0⟩ := Go.SX.open_mix Try.underlying24 40 (ls := ks0) (by kernel_rfl) (by kernel_rfl) (hval 0 24 v0 rfl rfl) h0
  have k1 := h1
  have lt1 : ∀ x ∈ p1, x.block < W.heap.size := by obtain ⟨m, hm⟩ := k1; exact DataW.trod_lt m _ _ _ hm
  obtain ⟨xs1, rfl, w1⟩ := Go.SX.open_flat1 (k := some .u32) Try.underlying60 (hval 1 60 v1 rfl rfl) h1
  have k2 := h2
  have lt2 : ∀ x ∈ p2, x.block < W.heap.size := by obtain ⟨m, hm⟩ := k2; exact DataW.trod_lt m _ _ _ hm
  obtain ⟨xs2, rfl, w2⟩ := Go.SX.open_flat1 (k := some .u32) Try.underlying60 (hval 2 60 v2 rfl rfl) h2
  have k3 := h3
  have lt3 : ∀ x ∈ p3, x.block < W.heap.size := by obtain ⟨m, hm⟩ := k3; exact DataW.trod_lt m _ _ _ hm
  obtain ⟨xs3, rfl, w3⟩ := Go.SX.open_flat1 (k := some .u32) Try.underlying60 (hval 3 60 v3 rfl rfl) h3
  have k4 := h4
  have lt4 : ∀ x ∈ p4, x.block < W.heap.size := by obtain ⟨m, hm⟩ := k4; exact DataW.trod_lt m _ _ _ hm
  obtain ⟨xs4, rfl, w4⟩ := Go.SX.open_flat1 (k := some .u8) Try.underlying5 (hval 4 5 v4 rfl rfl) h4
  clear hA0 hval0
  refine (walk W xs0 xs1 xs2 xs3 xs4 w0 w1 w2 w3 w4).mono fun e W' ⟨he, bel⟩ => ?_
  subst he
  exact ⟨_, rfl, _, _, _, [], _, [], hW', trodAll_mk1 (shut_bool Try.underlying4 _), (trodAll_cons_mk (Below.trod laidOut (by kernel_rfl) (of_decide_eq_true (by kernel_rfl)) k0 bel lt0) (trodAll_cons_mk (Below.trod laidOut (by kernel_rfl) (of_decide_eq_true (by kernel_rfl)) k1 bel lt1) (trodAll_cons_mk (Below.trod laidOut (by kernel_rfl) (of_decide_eq_true (by kernel_rfl)) k2 bel lt2) (trodAll_cons_mk (Below.trod laidOut (by kernel_rfl) (of_decide_eq_true (by kernel_rfl)) k3 bel lt3) (trodAll_cons_mk (Below.trod laidOut (by kernel_rfl) (of_decide_eq_true (by kernel_rfl)) k4 bel lt4) trodAll_mk0))))), rfl, bel.frame _, fun h => by cases h⟩

theorem over : Rows.chargeCostsRow.holds Try.pinned (OpenSpec.ofChange Rows.chargeCostsSpec) :=
  OpenClaim.holds_of_wide 6 Try.f6 rfl rfl rfl rfl rfl rfl rfl ⟨rfl, rfl, rfl, rfl, rfl⟩ rfl rfl rfl rfl rfl (by kernel_rfl) Try.func6 (by kernel_rfl)
    (of_decide_eq_true (by kernel_rfl)) (by unfold Func.isWrapper; first | (rw [if_pos (by decide +kernel)]; kernel_rfl) | (rw [if_neg (by decide +kernel)]; exact ⟨rfl, rfl⟩))
    (fun os started H enc _ => lifted os started H enc)

/-- THE STATEMENT -/
theorem proved : Rows.ChargeCostsSaid := over
#print axioms proved
end Go.Proofs.Ytlbmeamjgdgbmaa.chargeCosts
