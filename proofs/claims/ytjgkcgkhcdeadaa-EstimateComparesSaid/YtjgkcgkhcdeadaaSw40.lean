/- Laws way by way: each way by a run of its own, with contracts of its own. -/
import Derived.Test.YtjgkcgkhcdeadaaSw37
namespace Go.SX
open Go Go.RowKit Go.WideShapes Go.ChangeShapes
set_option linter.unusedVariables false
set_option linter.unusedSimpArgs false
set_option linter.unusedSectionVars false

inductive WaysP (chk : Ctx → Prop) : Ctx → Prop
  | one {cx : Ctx} : chk cx → WaysP chk cx
  | split {cx : Ctx} (b : BE) : WaysP chk (assumeJ 50 cx b true) → WaysP chk (assumeJ 50 cx b false) → WaysP chk cx
theorem WaysP.at {chk : Ctx → Prop} {env : Env} {cx : Ctx} (h : WaysP chk cx) : cx.ok env → ∃ cx' : Ctx, cx'.ok env ∧ chk cx' := by
  induction h with
  | one h => exact fun hc => ⟨_, hc, h⟩
  | split b _ _ ih1 ih2 =>
    intro hc
    cases hb : b.den env with
    | true => exact ih1 (assumeJ_ok 50 hc hb)
    | false => exact ih2 (assumeJ_ok 50 hc hb)
/-- on a way a law says yes -/
def yesW (P : Program) (X : Par) (n f : Nat) (sh : List PSh) (cx : Ctx) : Bool := (run (callT P X n f (shArgs sh 0 0) cx) (shSt sh)).vt.allYes

theorem calls_ways {P : Program} {sh : List PSh} {l : List PV} {fn : Nat → List Int → Int} {n f d : Nat} {w : World} (hmix : P.follows .mixedOrders = true) (hw : pvAll w sh l) (hfn : FnRows fn sh l 0)
    (hy : WaysP (fun cx => ∃ X, ParOK P fn X ∧ yesW P X n f sh cx = true) (shCtx sh [] d)) :
    Calls P f (pvVals sh l).toArray w fun e w' => e = .returned (.bool true) ∧ Below w.heap.size w w' := by
  have hv : ∀ j, j < (pvNums l).length → (envOf (pvNums l) fn).v (0 + j) = (pvNums l).getD j 0 := fun j hj => by simp [envOf]
  obtain ⟨cx, hcx, X, hX, h⟩ := hy.at (env := envOf (pvNums l) fn) (show (shCtx sh [] d).ok _ from ⟨shRngs_ok hw hv, fun be v h => by simp [shCtx] at h⟩)
  obtain ⟨ρ, h3, h4⟩ := places 0 hw
  have hs : HS (envOf (pvNums l) fn) ρ w.heap.size (shStore sh 0 0) w := by
    refine ⟨?_, ?_, ?_, Nat.le_refl _, ?_, hX.rows⟩
    · intro b v hg
      obtain ⟨r, o, e, ho, hb⟩ := shStore_blk hw h4 hfn hv b v hg
      exact ⟨r, o, e, fun hvd => ⟨(hb hvd).1, (fun h => by rw [ho] at h; cases h), fun _ => (hb hvd).2⟩⟩
    · intro b p e
      have := h3 b p e
      exact shStore_dom (by omega) (by omega)
    · intro b b' r o o' e e' hr hd hd'
      cases hg : (shStore sh 0 0).get b with
      | none =>
        have := h3 b _ e
        exact absurd hg (shStore_dom (by omega) (by omega))
      | some v =>
        rw [hg] at hd
        obtain ⟨r', o', e1, ho, hb⟩ := shStore_blk hw h4 hfn hv b v hg
        rw [e] at e1
        cases e1
        have := (hb hd.void).2
        omega
    · intro b v hg
      obtain ⟨r, o, e, ho, hb⟩ := shStore_blk hw h4 hfn hv b v hg
      cases v with
      | vec => cases ho
      | _ => exact trivial
  exact calls_yes hmix hX rfl hcx (shArgs_rep hw h4 hv) hs (PT.holds_vt (VT.allYes_holds h))

/-- as pairWC_ways, with ranges that the tree shows -/
theorem pairWC_waysR {P : Program} {fn : Nat → List Int → Int} {X : Par} {d n f K : Nat} {sh : List (Bool × PSh)} {pre : List BE} {outs : List OC} {sel : List Nat} {rs : List (Nat × Int × Int)} (t : VT)
    (hmix : P.follows .mixedOrders = true) (hX : ParOK P fn X) (hT : TreeIs fn K (ocN outs) t) (hent : (entered P f).isSome = true)
    (hw : Ways (wayW P X n f sh outs sel t) (rcCtx sh pre d)) (hr : rngsT (rcCtx sh pre d) (t.ren (atL (selE sel))) rs = true) (hl : (rs.all fun r => Nat.blt r.1 (ocN outs)) = true) : (pairWC f sh pre outs K sel rs).OK P fn := by
  refine WC.ok_runC (X := X) (n := n) hmix hX hent fun pv w hpv hfn hpre => ?_
  have hcx0 : (rcCtx sh pre d).ok (envOf (pvNums pv) fn) := RC.ctx_ok hpv hpre
  refine ⟨by simp [pairWC], ?_, ?_⟩
  · intro p hm
    simp only [pairWC, List.mem_map] at hm
    obtain ⟨⟨j, lo, hi⟩, hm, rfl⟩ := hm
    have h1 := rngsT_ok hcx0 hr j lo hi hm
    have hj : j < ocN outs := by
      have := List.all_eq_true.1 hl _ hm
      simpa [Nat.blt_eq] using this
    rw [ren_fn hT (env := envOf (pvNums pv) fn) rfl sel hj] at h1
    show lo ≤ fn (K + j) (denL (envOf (pvNums pv) fn) (selE sel)) ∧ fn (K + j) (denL (envOf (pvNums pv) fn) (selE sel)) ≤ hi
    rw [selE_den]
    exact h1
  · obtain ⟨cx, hcx, hk⟩ := hw.at (env := envOf (pvNums pv) fn) hcx0
    simp only [wayW, okT, Bool.and_eq_true] at hk
    refine ⟨cx, hcx, ?_⟩
    have h2 := agree_ok hcx hk.2
    refine VT.holds_at hk.1 fun j hj => ?_
    exact (h2.2 j).trans (ren_fn hT rfl sel hj)
end Go.SX
