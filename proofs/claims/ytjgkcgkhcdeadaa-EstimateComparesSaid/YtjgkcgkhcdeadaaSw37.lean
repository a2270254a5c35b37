/- Pairs of functions that return rows: what a tree comes to, its variables chosen. -/
import Derived.Test.YtjgkcgkhcdeadaaSw36
namespace Go.SX
open Go Go.RowKit Go.WideShapes Go.ChangeShapes
set_option linter.unusedVariables false
set_option linter.unusedSimpArgs false
set_option linter.unusedSectionVars false

def numForm (m : Nat) : SV := .agg (List.replicate m (.int .i64 (.lit 0)))
theorem numForm_len (m : Nat) : (numForm m).nums.length = m := by
  simp only [numForm, SV.nums]
  induction m with
  | zero => rfl
  | succ m ih => simp only [List.replicate_succ, SV.numsL, SV.nums, List.length_append, ih, List.length_cons, List.length_nil]; omega

/-- a tree with other expressions for its variables -/
def VT.ren (σ : Nat → E) : VT → VT
  | .leaf v => .leaf (v.sub 0 σ)
  | .ite c t e => .ite (c.sub 0 σ) (t.ren σ) (e.ren σ)
  | .need c t => .need (c.sub 0 σ) (t.ren σ)
  | .fail => .fail

mutual
theorem nums_sub {env : Env} {es : List E} : ∀ v : SV, denL env (v.sub 0 (atL es)).nums = denL (env.upd 0 (denL env es)) v.nums
  | .int k e => by simp only [SV.sub, SV.nums, denL, subE_at]
  | .bool b => by simp only [SV.sub, SV.nums, denL, toE_ok, sub_at]
  | .agg l => by simp only [SV.sub, SV.nums]; exact numsL_sub l
  | .tuple l => by simp only [SV.sub, SV.nums]; exact numsL_sub l
  | .ptr _ | .slice .. | .func .. | .nilFunc | .nilIface | .iface .. | .str _ | .nilMap | .any | .vsl .. | .vg .. => rfl
theorem numsL_sub {env : Env} {es : List E} : ∀ l : List SV, denL env (SV.numsL (SV.subL 0 (atL es) l)) = denL (env.upd 0 (denL env es)) (SV.numsL l)
  | [] => rfl
  | v :: l => by simp only [SV.subL, SV.numsL, denL_append, nums_sub v, numsL_sub l]
end
theorem ren_at {env : Env} {es : List E} : ∀ t : VT, denL env ((t.ren (atL es)).at env).nums = denL (env.upd 0 (denL env es)) (t.at (env.upd 0 (denL env es))).nums
  | .leaf v => nums_sub v
  | .ite c t e => by
      simp only [VT.ren, VT.at, sub_at]
      cases c.den (env.upd 0 (denL env es))
      · exact ren_at e
      · exact ren_at t
  | .need c t => ren_at t
  | .fail => rfl

theorem upd0 (env : Env) (a : List Int) : env.upd 0 a = envOf a env.f := by
  unfold Env.upd envOf
  congr 1

/-- the contract of a function that gives a tree's numbers -/
def pairWC (f : Nat) (sh : List (Bool × PSh)) (pre : List BE) (outs : List OC) (K : Nat) (sel : List Nat) (rs : List (Nat × Int × Int)) : WC :=
  ⟨f, sh, outs, K, sel, pre, [], rs.map fun r => (.app (K + r.1) (selE sel), r.2.1, r.2.2)⟩

theorem ren_fn {fn : Nat → List Int → Int} {K m : Nat} {t : VT} (hT : TreeIs fn K m t) {env : Env} (he : env.f = fn) (sel : List Nat) {j : Nat} (hj : j < m) :
    (((t.ren (atL (selE sel))).at env).nums.getD j (.lit 0)).den env = fn (K + j) (selV sel env) := by
  rw [denL_getD, ren_at, selE_den, upd0, he, ← denL_getD, hT j _ hj]
  rfl

theorem pairWC_ok {P : Program} {fn : Nat → List Int → Int} {X : Par} {d n f K : Nat} {sh : List (Bool × PSh)} {pre : List BE} {outs : List OC} {sel : List Nat} {rs : List (Nat × Int × Int)} (t t' : VT)
    (hmix : P.follows .mixedOrders = true) (hX : ParOK P fn X) (hT : TreeIs fn K (ocN outs) t) (hent : (entered P f).isSome = true)
    (ht : (run (callT P X n f (rcArgs sh) (rcCtx sh pre d)) (rcSt sh)).vtO outs = t')
    (hc : t'.clean (numForm (ocN outs)) = true) (ha : agree (t.ren (atL (selE sel))) (rcCtx sh pre d) t' = true) (hr : rngsT (rcCtx sh pre d) (t.ren (atL (selE sel))) rs = true) (hl : (rs.all fun r => Nat.blt r.1 (ocN outs)) = true) :
    (pairWC f sh pre outs K sel rs).OK P fn := by
  refine WC.ok_run (X := X) (d := d) (n := n) (t := t') hmix hX hent ht fun pv w hw hfn hpre => ?_
  have hcx : (rcCtx sh pre d).ok (envOf (pvNums pv) fn) := RC.ctx_ok hw hpre
  refine ⟨by simp [pairWC], ?_, ?_⟩
  · intro p hm
    simp only [pairWC, List.mem_map] at hm
    obtain ⟨⟨j, lo, hi⟩, hm, rfl⟩ := hm
    have h1 := rngsT_ok hcx hr j lo hi hm
    have hj : j < ocN outs := by
      have := List.all_eq_true.1 hl _ hm
      simpa [Nat.blt_eq] using this
    rw [ren_fn hT (env := envOf (pvNums pv) fn) rfl sel hj] at h1
    show lo ≤ fn (K + j) (denL (envOf (pvNums pv) fn) (selE sel)) ∧ fn (K + j) (denL (envOf (pvNums pv) fn) (selE sel)) ≤ hi
    rw [selE_den]
    exact h1
  · have h2 := agree_ok hcx ha
    refine VT.holds_at hc fun j hj => ?_
    rw [h2.2 j]
    exact ren_fn hT rfl sel hj
/-! ### way by way -/

/-- a check that holds on each of some ways, which together are all -/
inductive Ways (chk : Ctx → Bool) : Ctx → Prop
  | one {cx : Ctx} : chk cx = true → Ways chk cx
  | split {cx : Ctx} (b : BE) : Ways chk (assumeJ 50 cx b true) → Ways chk (assumeJ 50 cx b false) → Ways chk cx
theorem Ways.at {chk : Ctx → Bool} {env : Env} {cx : Ctx} (h : Ways chk cx) : cx.ok env → ∃ cx' : Ctx, cx'.ok env ∧ chk cx' = true := by
  induction h with
  | one h => exact fun hc => ⟨_, hc, h⟩
  | split b _ _ ih1 ih2 =>
    intro hc
    cases hb : b.den env with
    | true => exact ih1 (assumeJ_ok 50 hc hb)
    | false => exact ih2 (assumeJ_ok 50 hc hb)
def okT (m : Nat) (tr : VT) (cx : Ctx) (t' : VT) : Bool := t'.clean (numForm m) && agree tr cx t'
/-- on a way a function's tree agrees with another one -/
def wayW (P : Program) (X : Par) (n f : Nat) (sh : List (Bool × PSh)) (outs : List OC) (sel : List Nat) (t : VT) (cx : Ctx) : Bool :=
  okT (ocN outs) (t.ren (atL (selE sel))) cx ((run (callT P X n f (rcArgs sh) cx) (rcSt sh)).vtO outs)
theorem pairWC_ways {P : Program} {fn : Nat → List Int → Int} {X : Par} {d n f K : Nat} {sh : List (Bool × PSh)} {pre : List BE} {outs : List OC} {sel : List Nat} (t : VT)
    (hmix : P.follows .mixedOrders = true) (hX : ParOK P fn X) (hT : TreeIs fn K (ocN outs) t) (hent : (entered P f).isSome = true)
    (hw : Ways (wayW P X n f sh outs sel t) (rcCtx sh pre d)) : (pairWC f sh pre outs K sel []).OK P fn := by
  refine WC.ok_runC (X := X) (n := n) hmix hX hent fun pv w hpv hfn hpre => ?_
  refine ⟨by simp [pairWC], by simp [pairWC], ?_⟩
  obtain ⟨cx, hcx, hk⟩ := hw.at (env := envOf (pvNums pv) fn) (RC.ctx_ok hpv hpre)
  simp only [wayW, okT, Bool.and_eq_true] at hk
  refine ⟨cx, hcx, ?_⟩
  have h2 := agree_ok hcx hk.2
  refine VT.holds_at hk.1 fun j hj => ?_
  exact (h2.2 j).trans (ren_fn hT rfl sel hj)

/-! ### some calls alone -/

def genIf (p : List SV → Bool) (G H : Gen) : Gen := fun f args cx => bif p args then G f args cx else H f args cx
theorem genIf_ok {P : Program} {env : Env} {p : List SV → Bool} {G H : Gen} (hG : GenOK P env G) (hH : GenOK P env H) : GenOK P env (genIf p G H) := by
  intro f args cx g hg
  simp only [genIf] at hg
  cases hp : p args with
  | true => rw [hp, cond_true] at hg; exact hG f args cx g hg
  | false => rw [hp, cond_false] at hg; exact hH f args cx g hg
/-- contracts that are used where the arguments are so -/
def Par.onlyIf (p : List SV → Bool) (Y X : Par) : Par := { X with gen := genIf p Y.gen X.gen }
theorem ParOK.onlyIf {P : Program} {fn : Nat → List Int → Int} {p : List SV → Bool} {Y X : Par} (hY : ParOK P fn Y) (hX : ParOK P fn X) : ParOK P fn (Par.onlyIf p Y X) :=
  ⟨hX.book, hX.loops, hX.rows, fun env he => genIf_ok (hY.gen env he) (hX.gen env he)⟩
theorem ParOK.ways {P : Program} {fn : Nat → List Int → Int} {X : Par} (h : ParOK P fn X) (jr jc : Nat → Bool) (jd : Nat → Option (List Nat)) : ParOK P fn { X with jr := jr, jc := jc, jd := jd } := ⟨h.book, h.loops, h.rows, h.gen⟩
theorem noPar_ok {P : Program} (fn : Nat → List Int → Int) (hr : RowFn fn) : ParOK P fn noPar := ⟨fun env _ => noBook_ok _ _, (fun env _ f i g h => by cases h), hr, fun env _ => noGen_ok _ _⟩
end Go.SX
