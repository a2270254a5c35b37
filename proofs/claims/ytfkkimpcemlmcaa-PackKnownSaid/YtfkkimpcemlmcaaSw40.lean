/- Contracts path by path: a tree's ways, each reckoned by a run of its own.
Contracts of functions that return rows: new slices, beside numbers.
Contracts of functions that return rows: proved by a run of the function's own.
Pairs of functions that return rows: what a tree comes to, its variables chosen.
Laws way by way: each way by a run of its own, with contracts of its own. -/
import Derived.Test.YtfkkimpcemlmcaaSw33
namespace Go.SX
open Go Go.RowKit
set_option linter.unusedVariables false
set_option linter.unusedSimpArgs false
set_option linter.unusedSectionVars false

/-- the ways of a tree: what is known on each, and its leaf -/
def VT.paths : VT → List (List (BE × Bool) × SV)
  | .leaf v => [([], v)]
  | .ite c t e => t.paths.map (fun p => ((c, true) :: p.1, p.2)) ++ e.paths.map (fun p => ((c, false) :: p.1, p.2))
  | .need _ t => t.paths
  | .fail => []
theorem VT.path_at {env : Env} {s : SV} : ∀ {t : VT}, t.clean s = true → ∃ p, p ∈ t.paths ∧ (∀ be v, (be, v) ∈ p.1 → be.den env = v) ∧ t.at env = p.2
  | .leaf v, _ => ⟨([], v), by simp [VT.paths], by simp, rfl⟩
  | .ite c t e, h => by
      simp only [VT.clean, Bool.and_eq_true] at h
      cases hv : c.den env with
      | true =>
        obtain ⟨p, h1, h2, h3⟩ := VT.path_at (env := env) h.1
        refine ⟨((c, true) :: p.1, p.2), ?_, ?_, ?_⟩
        · simp only [VT.paths, List.mem_append, List.mem_map]
          exact .inl ⟨p, h1, rfl⟩
        · intro be v hm
          rcases List.mem_cons.1 hm with e | hm
          · cases e; exact hv
          · exact h2 be v hm
        · simp only [VT.at, hv, cond_true]; exact h3
      | false =>
        obtain ⟨p, h1, h2, h3⟩ := VT.path_at (env := env) h.2
        refine ⟨((c, false) :: p.1, p.2), ?_, ?_, ?_⟩
        · simp only [VT.paths, List.mem_append, List.mem_map]
          exact .inr ⟨p, h1, rfl⟩
        · intro be v hm
          rcases List.mem_cons.1 hm with e | hm
          · cases e; exact hv
          · exact h2 be v hm
        · simp only [VT.at, hv, cond_false]; exact h3
  | .need _ _, h => by simp [VT.clean] at h
  | .fail, h => by simp [VT.clean] at h

def pathCtx : Ctx → List (BE × Bool) → Ctx
  | cx, [] => cx
  | cx, (c, v) :: l => pathCtx (assumeJ 50 cx c v) l
theorem pathCtx_ok {env : Env} : ∀ {l : List (BE × Bool)} {cx : Ctx}, cx.ok env → (∀ be v, (be, v) ∈ l → be.den env = v) → (pathCtx cx l).ok env
  | [], cx, hc, _ => hc
  | (c, v) :: l, cx, hc, h => by
      show (pathCtx (assumeJ 50 cx c v) l).ok env
      exact pathCtx_ok (l := l) (assumeJ_ok 50 hc (h c v (by simp))) fun be v hm => h be v (by simp [hm])

/-- on a way the run ends in one leaf, with the way's numbers -/
def pathOK (P : Program) (X : Par) (n f : Nat) (sh : List (Bool × PSh)) (pre : List BE) (d : Nat) (s : SV) (p : List (BE × Bool) × SV) : Bool :=
  let cx := pathCtx (rcCtx sh pre d) p.1
  match (run (callT P X n f (rcArgs sh) cx) (rcSt sh)).vt with
  | .leaf u => u.form s && numsSame cx u.nums p.2.nums
  | _ => false

theorem RC.calls_ctx {P : Program} {fn : Nat → List Int → Int} {X : Par} {n f : Nat} {sh : List (Bool × PSh)} {cx : Ctx} {t : VT} {v : SV} {pv : List PV} {w : World}
    (hmix : P.follows .mixedOrders = true) (hX : ParOK P fn X) (hw : pvAll w (sh.map (·.2)) pv) (hfn : FnRows fn (sh.map (·.2)) pv 0) (hcx : cx.ok (envOf (pvNums pv) fn))
    (ht : (run (callT P X n f (rcArgs sh) cx) (rcSt sh)).vt = t) (h3 : t.holds (envOf (pvNums pv) fn) fun u => u.eqv (envOf (pvNums pv) fn) v) :
    Calls P f (selBy sh (pvVals (sh.map (·.2)) pv)).toArray w fun e w' => ∃ V, e = .returned V ∧ (∀ ρ, Rep (envOf (pvNums pv) fn) ρ v V) ∧ Below w.heap.size w w' := by
  rw [← ht] at h3
  obtain ⟨ρ, p3, p4⟩ := places 0 hw
  have hv : ∀ j, j < (pvNums pv).length → (envOf (pvNums pv) fn).v (0 + j) = (pvNums pv).getD j 0 := fun j hj => by simp [envOf]
  have hs : HS (envOf (pvNums pv) fn) ρ w.heap.size (shStore (sh.map (·.2)) 0 0) w := by
    refine ⟨?_, ?_, ?_, Nat.le_refl _, ?_, hX.rows⟩
    · intro b v hg
      obtain ⟨r, o, e, ho, hb⟩ := shStore_blk hw p4 hfn hv b v hg
      exact ⟨r, o, e, fun hvd => ⟨(hb hvd).1, (fun h => by rw [ho] at h; cases h), fun _ => (hb hvd).2⟩⟩
    · intro b p e
      have := p3 b p e
      exact shStore_dom (by omega) (by omega)
    · intro b b' r o o' e e' hr hd hd'
      cases hg : (shStore (sh.map (·.2)) 0 0).get b with
      | none =>
        have := p3 b _ e
        exact absurd hg (shStore_dom (by omega) (by omega))
      | some v =>
        rw [hg] at hd
        obtain ⟨r', o', e1, ho, hb⟩ := shStore_blk hw p4 hfn hv b v hg
        rw [e] at e1
        cases e1
        have := (hb hd.void).2
        omega
    · intro b v hg
      obtain ⟨r, o, e, ho, hb⟩ := shStore_blk hw p4 hfn hv b v hg
      cases v with
      | vec => cases ho
      | _ => exact trivial
  refine (calls_run hmix hX (env := envOf (pvNums pv) fn) rfl hcx (selBy_rep (shArgs_rep hw p4 hv)) hs (PT.holds_vt h3)).mono ?_
  rintro e w' ⟨v, h', ρ', V, hq, rfl, hr, _, _, hb⟩
  exact ⟨V, rfl, fun ρ => Rep.eqv hq hr, hb⟩

/-- the contract of a function whose run agrees with a tree, way by way -/
theorem pairRC_paths {P : Program} {fn : Nat → List Int → Int} {X : Par} {d n f K : Nat} {sh : List (Bool × PSh)} {pre : List BE} {s : SV} (t : VT)
    (hmix : P.follows .mixedOrders = true) (hX : ParOK P fn X) (hT : TreeIs fn K s.nums.length t) (hp : (pairRC f sh pre s K []).v.plain = true) (hent : (entered P f).isSome = true)
    (hc : t.clean s = true) (h : ∀ p, p ∈ t.paths → pathOK P X n f sh pre d s p = true) : (pairRC f sh pre s K []).OK P fn := by
  refine ⟨hp, hent, fun pv w hw hfn hpre => ⟨by simp [pairRC], by simp [pairRC], ?_⟩⟩
  have hlen : (pvNums pv).length = shN (sh.map (·.2)) := pvNums_len hw
  obtain ⟨p, h1, h2, h3⟩ := VT.path_at (env := envOf (pvNums pv) fn) hc
  have hcx := pathCtx_ok (RC.ctx_ok (d := d) hw hpre) h2
  have hk := h p h1
  unfold pathOK at hk
  simp only at hk
  split at hk
  · rename_i u hu
    simp only [Bool.and_eq_true] at hk
    refine RC.calls_ctx hmix hX hw hfn hcx hu ?_
    have hn := numsSame_ok hcx hk.2
    exact pair_leaf hT hlen.symm hk.1 fun j => by rw [hn.2 j, h3]
  · cases hk

/-- the ways, some at a time -/
def pathsFrom (t : VT) (i m : Nat) : List (List (BE × Bool) × SV) := (t.paths.drop i).take m
theorem paths_cut {t : VT} {Q : List (BE × Bool) × SV → Bool} {i m : Nat} (h : (pathsFrom t i m).all Q = true) (h' : ∀ p, p ∈ t.paths.drop (i + m) → Q p = true) : ∀ p, p ∈ t.paths.drop i → Q p = true := by
  intro p hp
  rw [← List.take_append_drop m (t.paths.drop i)] at hp
  rcases List.mem_append.1 hp with hp | hp
  · exact List.all_eq_true.1 h p hp
  · rw [List.drop_drop] at hp
    exact h' p hp
theorem paths_end {t : VT} {Q : List (BE × Bool) × SV → Bool} {i : Nat} (h : Nat.ble t.paths.length i = true) : ∀ p, p ∈ t.paths.drop i → Q p = true := by
  intro p hp
  rw [List.drop_eq_nil_of_le (Nat.le_of_ble_eq_true h)] at hp
  cases hp
end Go.SX

namespace Go.SX
open Go Go.RowKit Go.WideShapes Go.ChangeShapes
set_option linter.unusedVariables false
set_option linter.unusedSimpArgs false
set_option linter.unusedSectionVars false

/-- a component of what is returned: numbers of a form, or a new row (its code and its length) -/
inductive OC where
  | num (s : SV)
  | row (sig : List (Option IntKind)) (ty : TypeId)
def OC.n : OC → Nat
  | .num s => s.nums.length
  | .row _ _ => 2
def ocN : List OC → Nat
  | [] => 0
  | c :: l => c.n + ocN l

/-- a contract: the function, its parameters, its components; their numbers are functions K, K + 1 .. of some of the variables -/
structure WC where
  f : Nat
  sh : List (Bool × PSh)
  outs : List OC
  K : Nat
  sel : List Nat
  pre : List BE := []
  facts : List BE := []
  rngs : Rngs := []
def WC.shs (c : WC) : List PSh := c.sh.map (·.2)
def selE (sel : List Nat) : List E := sel.map E.var
def appsS (K : Nat) (sel : List Nat) (m : Nat) : List E := (List.range m).map fun j => .app (K + j) (selE sel)

def outsT : List OC → List E → (List SV → Tree) → Tree
  | [], _, k => k []
  | .num s :: r, es, k => outsT r (es.drop s.nums.length) fun vs => k (s.fill es :: vs)
  | .row sig ty :: r, es, k => .new (.vec sig (es.getD 0 (.lit 0)) (es.getD 1 (.lit 0)) ty) fun m => outsT r (es.drop 2) fun vs => k (.vg m (es.getD 1 (.lit 0)) :: vs)

def WC.tree (c : WC) (cx : Ctx) (es : List E) (ar : Arrs) (K : SV → Ctx → Tree) : Tree :=
  needArrs (needAll cx (fun cx => outsT c.outs ((appsS c.K c.sel (ocN c.outs)).map (E.sub 0 (atL es))) fun vs =>
      K (oneOf vs) (assumeAll (addRs cx (c.rngs.map fun p => (p.1.sub 0 (atL es), p.2))) (c.facts.map (BE.sub 0 (atL es)))))
    ((shPre c.shs 0 ++ c.pre).map (BE.sub 0 (atL es)))) ar
def WC.gen (c : WC) (G : Gen) : Gen := fun f args cx => bif Nat.beq f c.f then (match rcM c.sh 0 0 args [] with
  | some (l, ar) => bif asgIn 0 (shN c.shs) l then some (c.tree cx (asgL l 0 (shN c.shs)) ar) else G f args cx
  | none => G f args cx) else G f args cx
def WC.par (c : WC) (X : Par) : Par := { X with gen := c.gen X.gen }

/-! ### what is returned -/

/-- a row with these numbers lies at r with capacity c -/
def RowNum (w : World) (B : Nat) (sig : List (Option IntKind)) (ty : TypeId) (code n : Int) (r c : Nat) : Prop :=
  ∀ (env : Env) (e1 e2 : E), e1.den env = code → e2.den env = n → RowObj env w B ⟨sig, ty, e1, e2⟩ r c
def voidN (c : Nat) (n : Int) : Prop := c = 0 ∧ n = 0

def OutIs (w : World) (B : Nat) : List OC → (Nat → Int) → (Nat → Prop) → List Value → Prop
  | [], _, _, vs => vs = []
  | .num s :: l, xs, F, vs => ∃ v vs', vs = v :: vs' ∧ (∀ (env : Env) (ρ : Pl) (es : List E), (∀ j, j < s.nums.length → (es.getD j (.lit 0)).den env = xs j) → Rep env ρ (s.fill es) v) ∧
      OutIs w B l (fun j => xs (s.nums.length + j)) F vs'
  | .row sig ty :: l, xs, F, vs => ∃ v vs' r c, vs = v :: vs' ∧ RowNum w B sig ty (xs 0) (xs 1) r c ∧ (∀ (env : Env) (ρ : Pl) nb e, ρ nb = some (r, c) → e.den env = xs 1 → Rep env ρ (.vg nb e) v) ∧
      (¬ voidN c (xs 1) → F r) ∧ OutIs w B l (fun j => xs (2 + j)) (fun q => F q ∧ (¬ voidN c (xs 1) → q ≠ r)) vs'

theorem void_iff {env : Env} {sig : List (Option IntKind)} {ty : TypeId} {e1 e2 : E} {c : Nat} {n : Int} (h : e2.den env = n) : ((rowBlk ⟨sig, ty, e1, e2⟩).void env c = false) ↔ ¬ voidN c n := by
  simp only [rowBlk, Blk.void, h, voidN, Bool.and_eq_false_iff, beq_eq_false_iff_ne, ne_eq]
  omega

theorem OutIs.le {w : World} {B B' : Nat} (hB : B' ≤ B) : ∀ {outs : List OC} {xs : Nat → Int} {F G : Nat → Prop} {vs : List Value}, (∀ q, B ≤ q → F q → G q) → OutIs w B outs xs F vs → OutIs w B' outs xs G vs
  | [], xs, F, G, vs, h, ho => ho
  | .num s :: l, xs, F, G, vs, h, ho => by
      obtain ⟨v, vs', rfl, h1, h2⟩ := ho
      exact ⟨v, vs', rfl, h1, OutIs.le hB h h2⟩
  | .row sig ty :: l, xs, F, G, vs, h, ho => by
      obtain ⟨v, vs', r, c, rfl, h1, h2, h3, h4⟩ := ho
      have hr : ¬ voidN c (xs 1) → B ≤ r := fun hv => ((h1 ⟨fun _ => 0, fun _ _ => 0⟩ (.lit (xs 0)) (.lit (xs 1)) rfl rfl).2 ((void_iff rfl).2 hv)).2
      refine ⟨v, vs', r, c, rfl, fun env e1 e2 g1 g2 => ?_, h2, fun hv => h r (hr hv) (h3 hv), OutIs.le hB (fun q hq hf => ⟨h q hq hf.1, hf.2⟩) h4⟩
      obtain ⟨k1, k2⟩ := h1 env e1 e2 g1 g2
      exact ⟨k1, fun hv => ⟨(k2 hv).1, Nat.le_trans hB (k2 hv).2⟩⟩

theorem outsT_ok {env : Env} {B : Nat} {w : World} {r : Out × St} : ∀ {outs : List OC} {es : List E} {k : List SV → Tree} {s : St} {ρ : Pl} {xs : Nat → Int} {F : Nat → Prop} {vs : List Value},
    runE env (outsT outs es k) s = some r → HS env ρ B s.h w → OutIs w B outs xs F vs → (∀ j, j < ocN outs → (es.getD j (.lit 0)).den env = xs j) → (∀ q, F q → B ≤ q → ∀ b o, ρ b = some (q, o) → ¬ Solid env o (s.h.get b)) →
    ∃ svs ρ' s', runE env (k svs) s' = some r ∧ ρ.le ρ' ∧ RepL env ρ' svs vs ∧ HS env ρ' B s'.h w
  | [], es, k, s, ρ, xs, F, vs, h, hs, ho, hx, hF => ⟨[], ρ, s, h, ρ.le_refl, by rw [show vs = [] from ho]; rfl, hs⟩
  | .num f :: l, es, k, s, ρ, xs, F, vs, h, hs, ho, hx, hF => by
      obtain ⟨v, vs', rfl, h1, h2⟩ := ho
      simp only [outsT] at h
      obtain ⟨svs, ρ', s', g1, g2, g3, g4⟩ := outsT_ok h hs h2 (fun j hj => by
        have := hx (f.nums.length + j) (by simp only [ocN, OC.n]; omega)
        rw [← this]
        simp [List.getD_eq_getElem?_getD]) hF
      refine ⟨_, ρ', s', g1, g2, ⟨v, vs', h1 env ρ' es (fun j hj => hx j (by simp only [ocN, OC.n]; omega)), g3, rfl⟩, g4⟩
  | .row sig ty :: l, es, k, s, ρ, xs, F, vs, h, hs, ho, hx, hF => by
      obtain ⟨v, vs', r0, c, rfl, h1, h2, h3, h4⟩ := ho
      simp only [outsT] at h
      obtain ⟨hnone, h⟩ := runE_new h
      have x0 := hx 0 (by simp only [ocN, OC.n]; omega)
      have x1 := hx 1 (by simp only [ocN, OC.n]; omega)
      have hobj := h1 env _ _ x0 x1
      have hvi := void_iff (env := env) (sig := sig) (ty := ty) (e1 := es.getD 0 (.lit 0)) (c := c) x1
      have hs1 := hs.addRow hnone hobj (fun hv => hF r0 (h3 (hvi.1 hv)) (hobj.2 hv).2)
      have hle := hs.fresh hnone r0 c
      obtain ⟨svs, ρ', s', g1, g2, g3, g4⟩ := outsT_ok (ρ := ρ.upd s.nx r0 c) h hs1 h4 (fun j hj => by
        have := hx (2 + j) (by simp only [ocN, OC.n]; omega)
        rw [← this]
        simp [List.getD_eq_getElem?_getD]) (fun q hq hB b o e hd => by
        simp only [St.add, T.get_set] at hd
        simp only [Pl.upd] at e
        split at e
        · rename_i hb
          cases e
          rw [if_pos hb] at hd
          exact hq.2 (hvi.1 hd.void) rfl
        · rename_i hb
          rw [if_neg hb] at hd
          exact hF q hq.1 hB b o e hd)
      refine ⟨_, ρ', s', g1, Pl.le_trans hle g2, ⟨v, vs', h2 env ρ' _ _ (g2 _ _ (by simp [Pl.upd])) x1, g3, rfl⟩, g4⟩

/-- the numbers that the functions get -/
def selV (sel : List Nat) (env : Env) : List Int := sel.map env.v
theorem selE_den (env : Env) : ∀ sel : List Nat, denL env (selE sel) = selV sel env
  | [] => rfl
  | i :: l => by
      have := selE_den env l
      simp only [selE, selV, List.map_cons, denL, E.den] at this ⊢
      rw [this]

/-- what is to be shown of a contract -/
structure WC.OK (P : Program) (fn : Nat → List Int → Int) (c : WC) : Prop where
  ent : (entered P c.f).isSome = true
  calls : ∀ pv w, pvAll w c.shs pv → FnRows fn c.shs pv 0 → (∀ b, b ∈ c.pre → b.den (envOf (pvNums pv) fn) = true) →
    (∀ b, b ∈ c.facts → b.den (envOf (pvNums pv) fn) = true) ∧ (∀ e lo hi, (e, lo, hi) ∈ c.rngs → lo ≤ e.den (envOf (pvNums pv) fn) ∧ e.den (envOf (pvNums pv) fn) ≤ hi) ∧
    Calls P c.f (selBy c.sh (pvVals c.shs pv)).toArray w fun e w' => ∃ vs, e = .returned (oneV vs) ∧ OutIs w' w.heap.size c.outs (fun j => fn (c.K + j) (selV c.sel (envOf (pvNums pv) fn))) (fun _ => True) vs ∧ Below w.heap.size w w'

def WC.flatOK (c : WC) : Bool := c.sh.all fun p => match p.2 with | .flat a ks => a || Nat.beq ks.length 1 | .row _ => true

theorem appsS_den {env env' : Env} {σ : Nat → E} (h : ∀ e : E, (e.sub 0 σ).den env = e.den env') {K m j : Nat} {sel : List Nat} (hj : j < m) :
    (((appsS K sel m).map (E.sub 0 σ)).getD j (.lit 0)).den env = env'.f (K + j) (selV sel env') := by
  have : ((appsS K sel m).map (E.sub 0 σ)).getD j (.lit 0) = (E.app (K + j) (selE sel)).sub 0 σ := by
    simp [appsS, List.getD_eq_getElem?_getD, hj]
  rw [this, h]
  show env'.f (K + j) (denL env' (selE sel)) = _
  rw [selE_den]

theorem WC.genOK {P : Program} {fn : Nat → List Int → Int} {c : WC} (hc : c.OK P fn) (hfl : c.flatOK = true) {G : Gen} {env : Env} (he : env.f = fn) (hG : GenOK P env G) : GenOK P env (c.gen G) := by
  intro f args cx g hg hcx B K s r h ρ vs w ha hs cs
  simp only [WC.gen, beq_dec] at hg
  by_cases hf : f = c.f
  case neg => simp only [hf, decide_false, cond_false] at hg; exact hG f args cx g hg hcx B K s r h ρ vs w ha hs cs
  subst hf
  simp only [decide_true, cond_true] at hg
  split at hg
  case h_2 => exact hG _ args cx g hg hcx B K s r h ρ vs w ha hs cs
  rename_i l ar hm
  cases hin : asgIn 0 (shN c.shs) l with
  | false => rw [hin, cond_false] at hg; exact hG _ args cx g hg hcx B K s r h ρ vs w ha hs cs
  | true =>
    rw [hin, cond_true] at hg
    cases hg
    generalize hes : asgL l 0 (shN c.shs) = es at h
    have hlen : es.length = shN c.shs := by rw [← hes]; exact length_asgL _ 0
    have hA := asg_upd (env := env) hin
    rw [hes] at hA
    have hag : Agree 0 env (env.upd 0 (denL env es)) := Env.agree env 0 _
    unfold WC.tree at h
    obtain ⟨harrs, s2, hs2, h⟩ := needArrs_ok h hs
    rw [← hs2] at hs
    obtain ⟨hneeds, cx1, hc1, h⟩ := needAll_ok h hcx
    have hpre : ∀ be, be ∈ shPre c.shs 0 ++ c.pre → be.den (env.upd 0 (denL env es)) = true := fun be hm => by
      have := hneeds (be.sub 0 (atL es)) (List.mem_map.2 ⟨be, hm, rfl⟩)
      rwa [sub_at] at this
    obtain ⟨pv, g1, g2, g3, g4, g5⟩ := rcM_ok hag hm hA ha hfl (fun be hm => hpre be (List.mem_append.2 (.inl hm))) harrs
    have hev : envOf (pvNums pv) fn = env.upd 0 (denL env es) := by
      have := envOf_ext (env' := env.upd 0 (denL env es)) (xs := pvNums pv) (n := shN c.shs) g3 (fun j hj => by
        have := g4 j (by rw [g3]; exact hj)
        rwa [Nat.zero_add] at this) (fun j hj => by
        simp only [Env.upd, Nat.not_lt_zero, if_false, Nat.sub_zero, List.getD_eq_getElem?_getD]
        rw [List.getElem?_eq_none (by rw [length_denL]; omega)]; rfl)
      rw [← he]
      exact this
    obtain ⟨q1, q2, q3⟩ := hc.calls pv w g1 (by rw [← he]; exact g2) (fun b hb => by rw [hev]; exact hpre b (List.mem_append.2 (.inr hb)))
    obtain ⟨⟨fn0, c0⟩, hent⟩ := Option.isSome_iff_exists.1 hc.ent
    obtain ⟨_, _, hcall⟩ := entered_ok hent vs.toArray w
    rw [show selBy c.sh (pvVals c.shs pv) = vs from g5] at q3
    obtain ⟨e, w', fr, ⟨us, rfl, hout, hb⟩, hcomes, hfn, hleave⟩ := q3 cs
    have hs' := hs.below hb
    have hout' : OutIs w' B c.outs (fun j => fn (c.K + j) (selV c.sel (envOf (pvNums pv) fn))) (fun q => w.heap.size ≤ q) us :=
      hout.le hs.size (fun q hq _ => hq)
    obtain ⟨svs, ρ', s', h, hle, hrep, hs3⟩ := outsT_ok h hs' hout' (fun j hj => by
        rw [appsS_den (env' := envOf (pvNums pv) fn) (fun e => by rw [subE_at, hev]) hj]
        rfl)
      (fun q hq hB b o e hd => by
        have := hs.lt' e hd
        omega)
    refine ⟨_, _, s', ρ', oneV us, w', fr, h, ?_, hle, oneOf_rep hrep, hs3, hb.mono hs.size, hcall, hcomes, hfn, hleave⟩
    refine assumeAll_ok (addRs_ok hc1 ?_) ?_
    · intro e lo hi hb
      simp only [List.mem_map] at hb
      obtain ⟨⟨e0, r0⟩, hb0, e1⟩ := hb
      cases e1
      rw [subE_at, ← hev]
      exact q2 e0 _ _ hb0
    · intro b hb
      simp only [List.mem_map] at hb
      obtain ⟨b0, hb0, rfl⟩ := hb
      rw [sub_at, ← hev]
      exact q1 b0 hb0

theorem WC.parOK {P : Program} {fn : Nat → List Int → Int} {c : WC} (hc : c.OK P fn) (hs : c.flatOK = true) {X : Par} (hX : ParOK P fn X) : ParOK P fn (c.par X) :=
  ⟨hX.book, hX.loops, hX.rows, fun env he => WC.genOK hc hs he (hX.gen env he)⟩
end Go.SX

namespace Go.SX
open Go Go.RowKit Go.WideShapes Go.ChangeShapes
set_option linter.unusedVariables false
set_option linter.unusedSimpArgs false
set_option linter.unusedSectionVars false

/-! ### rows among the values of a leaf -/

def repSig (sig : List (Option IntKind)) (n : Nat) : List (Option IntKind) := (List.replicate n sig).flatten
theorem repSig_get {sig : List (Option IntKind)} : ∀ {n i j : Nat}, i < n → j < sig.length → (repSig sig n)[sig.length * i + j]? = sig[j]?
  | 0, i, j, h, _ => by omega
  | n + 1, 0, j, h, hj => by simp [repSig, List.replicate_succ, List.getElem?_append_left hj]
  | n + 1, i + 1, j, h, hj => by
      have := repSig_get (sig := sig) (n := n) (i := i) (j := j) (by omega) hj
      simp only [repSig, List.replicate_succ, List.flatten_cons] at this ⊢
      rw [List.getElem?_append_right (by rw [Nat.mul_succ]; omega), ← this]
      congr 1
      rw [Nat.mul_succ]; omega
def isLitT : BE → Bool
  | .lit true => true
  | _ => false
theorem isLitT_eq {b : BE} (h : isLitT b = true) : b = .lit true := by
  unfold isLitT at h
  split at h
  · rfl
  · cases h
/-- the codes of cells, if all are seen to fit -/
def codeOf (cx : Ctx) (sig : List (Option IntKind)) (n : Nat) (l : List SV) : Option (List E) :=
  match cellsE (repSig sig n) 0 l with
  | some es => bif isLitT (cellNeeds cx (repSig sig n) 0 es) then some es else none
  | none => none

/-- the code and the length of a row, and its name if it has one -/
def rowNums (h : T Blk) (cx : Ctx) (sig : List (Option IntKind)) (ty : TypeId) : SV → Option (E × E × Option Nat)
  | .slice none (.lit 0) (some (.lit 0)) => some (.app 1000 [], .lit 0, none)
  | .slice (some (.g m 0)) (.lit n) none => (match h.get m with
    | some (.grow l ty' sz) => bif (Nat.beq ty' ty && Nat.beq sz sig.length) && (Nat.beq l.length (sig.length * n.toNat) && decide (0 ≤ n)) then (codeOf cx sig n.toNat l).map fun es => (.app 1000 es, .lit n, some m) else none
    | _ => none)
  | .slice (some (.c m 0)) (.lit n) (some (.lit c)) => (match h.get m with
    | some (.cells l ty') => bif (Nat.beq ty' ty && Nat.ble (sig.length * c.toNat) l.length) && (decide (0 ≤ n) && decide (n ≤ c)) then (codeOf cx sig n.toNat (l.take (sig.length * n.toNat))).map fun es => (.app 1000 es, .lit n, some m) else none
    | _ => none)
  | .vg m len => (match h.get m with
    | some (.vec sig' code N ty') => if sig' = sig ∧ ty' = ty ∧ len.same N = true then some (code, N, some m) else none
    | _ => none)
  | _ => none

def openO (h : T Blk) (cx : Ctx) : List OC → List SV → List Nat → Option (List E)
  | [], [], _ => some []
  | .num s :: r, v :: vs, used => bif v.form s then (openO h cx r vs used).map (v.nums ++ ·) else none
  | .row sig ty :: r, v :: vs, used => match rowNums h cx sig ty v with
    | some (c, n, m) => (match addRn 0 m used with
      | some used' => bif Nat.blt 0 sig.length then (openO h cx r vs used').map (c :: n :: ·) else none
      | none => none)
    | none => none
  | _, _, _ => none
def unOne : List OC → SV → Option (List SV)
  | [_], v => some [v]
  | _, .tuple l => some l
  | _, _ => none
def numV (es : List E) : SV := .agg (es.map (.int .i64 ·))
def PT.vtO (outs : List OC) : PT → VT
  | .leaf (.val v cx) s => (match unOne outs v with
    | some vs => (match openO s.h cx outs vs [] with
      | some es => .leaf (numV es)
      | none => .fail)
    | none => .fail)
  | .leaf _ _ => .fail
  | .ite c t e => .ite c (t.vtO outs) (e.vtO outs)
  | .need c t => .need c (t.vtO outs)
  | .fail _ => .fail

theorem numV_nums (es : List E) : (numV es).nums = es := by
  simp only [numV, SV.nums]
  induction es with
  | nil => rfl
  | cons e es ih => simp only [List.map_cons, SV.numsL, SV.nums, ih]; rfl

/-! ### they are right -/

theorem codeOf_ok {env : Env} {cx : Ctx} (hc : cx.ok env) {ρ : Pl} {sig : List (Option IntKind)} {n : Nat} {l : List SV} {es : List E} (h : codeOf cx sig n l = some es) {us : List Value} (hr : RepL env ρ l us) (hl : l.length = sig.length * n) :
    es.length = sig.length * n ∧ us.length = sig.length * n ∧ ∀ (i j : Nat) (k : Option IntKind), i < n → sig[j]? = some k → us[sig.length * i + j]? = some (cellW k ((denL env es).getD (sig.length * i + j) 0)) ∧
      ∀ kd, k = some kd → kd.min ≤ (denL env es).getD (sig.length * i + j) 0 ∧ (denL env es).getD (sig.length * i + j) 0 ≤ kd.max := by
  unfold codeOf at h
  split at h
  case h_2 => cases h
  rename_i es' he
  cases hb : isLitT (cellNeeds cx (repSig sig n) 0 es') with
  | false => rw [hb, cond_false] at h; cases h
  | true =>
    rw [hb, cond_true] at h
    cases h
    obtain ⟨q1, q2, q3⟩ := cellsE_ok he hr
    refine ⟨by rw [q1, hl], by rw [q2, hl], fun i j k hi hj => ?_⟩
    have hjl : j < sig.length := (List.getElem?_eq_some_iff.1 hj).1
    have hlt : sig.length * i + j < l.length := by
      rw [hl]
      have : sig.length * (i + 1) ≤ sig.length * n := Nat.mul_le_mul_left _ hi
      rw [Nat.mul_succ] at this
      omega
    obtain ⟨k', p1, p2⟩ := q3 _ hlt
    rw [Nat.zero_add, repSig_get hi hjl, hj] at p1
    cases p1
    refine ⟨p2, fun kd hk => ?_⟩
    subst hk
    exact cellNeeds_ok hc (by rw [isLitT_eq hb]; rfl) (sig.length * i + j) kd (by rw [q1]; exact hlt) (by rw [Nat.zero_add, repSig_get hi hjl, hj])

theorem rowGet_enc (m j : Nat) (l : List Int) (i : Int) : rowGet m j (enc l) i = l.getD (m * i.toNat + j) 0 := by unfold rowGet; rw [dec_enc]

theorem rowNum_lit {env : Env} (hrow : RowFn env.f) {w : World} {B : Nat} {sig : List (Option IntKind)} {ty : TypeId} {es : List E} {n r c : Nat} (hpos : 0 < sig.length) (hl : es.length = sig.length * n)
    (hrng : ∀ (i j : Nat) (kd : IntKind), i < n → sig[j]? = some (some kd) → kd.min ≤ (denL env es).getD (sig.length * i + j) 0 ∧ (denL env es).getD (sig.length * i + j) 0 ≤ kd.max)
    (hobj : ¬ (c = 0 ∧ n = 0) → (∃ cur, w.heap[r]? = some (.cells cur ty (0, 0)) ∧ c * sig.length ≤ cur.size ∧ n ≤ c ∧ ∀ (i j : Nat) (k : Option IntKind), i < n → sig[j]? = some k → cur[sig.length * i + j]? = some (cellW k ((denL env es).getD (sig.length * i + j) 0))) ∧ B ≤ r) :
    RowNum w B sig ty ((E.app 1000 es).den env) ((E.lit (n : Nat)).den env) r c := by
  have hcode : (E.app 1000 es).den env = enc (denL env es) := by
    show env.f 1000 (denL env es) = _
    rw [hrow 1000 _ (by omega) (by omega)]
    exact rowOp_lit _
  intro env' e1 e2 h1 h2
  rw [hcode] at h1
  simp only [E.den] at h2
  refine ⟨⟨?_, hpos, ?_, ?_⟩, fun hv => ?_⟩
  · rw [h2]; omega
  · rw [h1, h2, dec_enc, length_denL, hl]; simp
  · intro i j kd hi hj
    rw [h2] at hi
    rw [h1, rowGet_enc]
    exact hrng i j kd (by omega) hj
  · have hnv : ¬ (c = 0 ∧ n = 0) := by
      simp only [rowBlk, Blk.void, h2] at hv
      rintro ⟨rfl, rfl⟩
      simp at hv
    obtain ⟨⟨cur, p1, p2, p3, p4⟩, hB⟩ := hobj hnv
    refine ⟨⟨cur, p1, p2, by rw [h2]; omega, fun i j k hi hj => ?_⟩, hB⟩
    rw [h2] at hi
    rw [h1, rowGet_enc]
    exact p4 i j k (by omega) hj

theorem rowNums_ok {env : Env} {cx : Ctx} (hc : cx.ok env) {ρ : Pl} {B : Nat} {h : T Blk} {w : World} (hs : HS env ρ B h w) {sig : List (Option IntKind)} {ty : TypeId} {v : SV} {e1 e2 : E} {m : Option Nat} (hpos : 0 < sig.length)
    (hn : rowNums h cx sig ty v = some (e1, e2, m)) {V : Value} (hv : Rep env ρ v V) :
    ∃ r c, RowNum w B sig ty (e1.den env) (e2.den env) r c ∧ (∀ (env' : Env) (ρ' : Pl) nb e, ρ' nb = some (r, c) → e.den env' = e2.den env → Rep env' ρ' (.vg nb e) V) ∧
      (m = none → voidN c (e2.den env)) ∧ ∀ b, m = some b → ∃ o, ρ b = some (r, o) ∧ (¬ voidN c (e2.den env) → Solid env o (h.get b)) := by
  unfold rowNums at hn
  split at hn
  · -- nil
    cases hn
    obtain ⟨A, c0, hA, hcap, _, rfl⟩ := hv
    have hA' : A = none := hA
    have hc0 : c0 = 0 := by simpa [RepC, E.den] using hcap
    subst hA' hc0
    refine ⟨0, 0, ?_, ?_, fun _ => ⟨rfl, rfl⟩, fun b hb => by cases hb⟩
    · have := rowNum_lit (env := env) hs.rows (w := w) (B := B) (sig := sig) (ty := ty) (es := []) (n := 0) (r := 0) (c := 0) hpos (by simp) (fun i j kd hi => by omega) (fun hh => absurd ⟨rfl, rfl⟩ hh)
      exact this
    · intro env' ρ' nb e hp he
      have he : e.den env' = 0 := he
      refine ⟨0, 0, hp, by omega, by rw [he]; exact Int.le_refl _, fun _ => ⟨none, by simp [E.den]⟩, fun h => absurd rfl h⟩
  · -- a row that grew
    rename_i b n
    split at hn
    case h_2 => cases hn
    rename_i l ty' sz hg
    cases hb : ((Nat.beq ty' ty && Nat.beq sz sig.length) && (Nat.beq l.length (sig.length * n.toNat) && decide (0 ≤ n))) with
    | false => rw [hb, cond_false] at hn; cases hn
    | true =>
      rw [hb, cond_true] at hn
      simp only [Bool.and_eq_true, beq_dec, decide_eq_true_eq] at hb
      obtain ⟨⟨rfl, hsz⟩, hl, hn0⟩ := hb
      rw [Option.map_eq_some_iff] at hn
      obtain ⟨es, hes, e⟩ := hn
      cases e
      obtain ⟨A, c, hA, hcap, _, rfl⟩ := hv
      obtain ⟨A', ⟨r0, o0, e0, rfl⟩, rfl⟩ := hA
      obtain ⟨hnc, hcp⟩ := hcap
      obtain ⟨r1, e1⟩ := hcp b rfl
      obtain ⟨hbs, hown, _⟩ := hs.at' hg e1 rfl
      rw [e0] at e1
      cases e1
      obtain ⟨cs, cur, hrep, hob, htake, hroom⟩ := hbs
      obtain ⟨q1, q2, q3⟩ := codeOf_ok hc hes hrep hl
      obtain ⟨nn, rfl⟩ : ∃ nn : Nat, n = nn := ⟨n.toNat, by omega⟩
      simp only [Int.toNat_natCast] at q1 q2 q3 hl
      have hnc' : nn ≤ c := by simpa [E.den] using hnc
      refine ⟨r0, c, ?_, ?_, (fun hm => by cases hm), ?_⟩
      · refine rowNum_lit hs.rows hpos q1 (fun i j kd hi hj => (q3 i j _ hi hj).2 kd rfl) (fun _ => ⟨⟨cur, hob, ?_, hnc', fun i j k hi hj => ?_⟩, hown rfl⟩)
        · rw [← hsz]; exact hroom
        · have h1 := (q3 i j k hi hj).1
          rw [← htake, List.getElem?_take] at h1
          split at h1
          · rw [← h1, Array.getElem?_toList]
          · cases h1
      · intro env' ρ' nb e hp he
        refine ⟨r0, c, hp, ?_, ?_, ?_, ?_⟩
        · rw [he]; simp only [E.den]; omega
        · rw [he]; simp only [E.den]; omega
        · intro hc0
          subst hc0
          have : nn = 0 := by omega
          subst this
          exact ⟨_, rfl⟩
        · intro _
          rw [he]
      · intro b' hb'
        cases hb'
        exact ⟨c, e0, fun _ => by rw [hg]; exact Solid.of rfl⟩
  · -- plain cells
    rename_i b n cc
    split at hn
    case h_2 => cases hn
    rename_i l ty' hg
    cases hb : ((Nat.beq ty' ty && Nat.ble (sig.length * cc.toNat) l.length) && (decide (0 ≤ n) && decide (n ≤ cc))) with
    | false => rw [hb, cond_false] at hn; cases hn
    | true =>
      rw [hb, cond_true] at hn
      simp only [Bool.and_eq_true, beq_dec, decide_eq_true_eq, Nat.ble_eq] at hb
      obtain ⟨⟨rfl, hroom⟩, hn0, hnc⟩ := hb
      rw [Option.map_eq_some_iff] at hn
      obtain ⟨es, hes, e⟩ := hn
      cases e
      obtain ⟨A, c, hA, hcap, _, rfl⟩ := hv
      obtain ⟨A', ⟨r0, o0, e0, rfl⟩, rfl⟩ := hA
      have hcc : c = cc.toNat := by simpa [RepC, E.den] using hcap
      obtain ⟨hbs, hown, _⟩ := hs.at' hg e0 rfl
      obtain ⟨ho, cs, hrep, hob⟩ := hbs
      subst ho
      have hlen := hrep.length
      obtain ⟨nn, rfl⟩ : ∃ nn : Nat, n = nn := ⟨n.toNat, by omega⟩
      obtain ⟨cn, rfl⟩ : ∃ cn : Nat, cc = cn := ⟨cc.toNat, by omega⟩
      simp only [Int.toNat_natCast] at hcc hroom hes
      subst hcc
      have hnc' : nn ≤ c := by omega
      have hmul : sig.length * nn ≤ sig.length * c := Nat.mul_le_mul_left _ hnc'
      have htk : RepL env ρ (l.take (sig.length * nn)) (cs.take (sig.length * nn)) := hrep.take _
      obtain ⟨q1, q2, q3⟩ := codeOf_ok hc hes htk (by simp; omega)
      refine ⟨r0, c, ?_, ?_, (fun hm => by cases hm), ?_⟩
      · refine rowNum_lit hs.rows hpos q1 (fun i j kd hi hj => (q3 i j _ hi hj).2 kd rfl) (fun _ => ⟨⟨_, hob, ?_, hnc', fun i j k hi hj => ?_⟩, hown rfl⟩)
        · simp only [List.size_toArray]; rw [hlen, Nat.mul_comm]; omega
        · have h1 := (q3 i j k hi hj).1
          rw [List.getElem?_take] at h1
          split at h1
          · simpa using h1
          · cases h1
      · intro env' ρ' nb e hp he
        refine ⟨r0, c, hp, ?_, ?_, ?_, ?_⟩
        · rw [he]; simp only [E.den]; omega
        · rw [he]; simp only [E.den]; omega
        · intro hc0
          subst hc0
          have : nn = 0 := by omega
          subst this
          exact ⟨_, rfl⟩
        · intro _
          rw [he]
      · intro b' hb'
        cases hb'
        exact ⟨0, e0, fun _ => by rw [hg]; exact Solid.of rfl⟩
  · -- a row with a name
    rename_i b len
    split at hn
    case h_2 => cases hn
    rename_i sig' code N ty' hg
    split at hn
    case isFalse => cases hn
    rename_i hcond
    obtain ⟨rfl, rfl, h3⟩ := hcond
    cases hn
    have hNN := E.same_eq h3
    subst hNN
    obtain ⟨r, c, e, hbl⟩ := hs.blk _ _ hg
    have hw : VecOK env sig' e1 len := hs.wf _ _ hg
    obtain ⟨r', c', e', k1, k2, k3, k4⟩ := hv
    rw [e] at e'
    cases e'
    refine ⟨r, c, ?_, ?_, (fun hm => by cases hm), ?_⟩
    · intro env' f1 f2 h1 h2
      have hvd : (rowBlk ⟨sig', ty', f1, f2⟩).void env' c = (Blk.vec sig' e1 len ty').void env c := by simp only [rowBlk, Blk.void, h2]
      refine ⟨?_, fun hv => ?_⟩
      · unfold VecOK at hw ⊢
        rw [h1, h2]
        exact hw
      · rw [hvd] at hv
        obtain ⟨⟨cur, q1, q2, q3, q4⟩, hown, _⟩ := hbl hv
        refine ⟨⟨cur, q1, q2, by rw [h2]; exact q3, ?_⟩, hown rfl⟩
        rw [h1, h2]; exact q4
    · intro env' ρ' nb f hp he
      refine ⟨r, c, hp, by rw [he]; exact k1, by rw [he]; exact k2, fun hc0 => ?_, fun hc0 => ?_⟩
      · obtain ⟨A, hA⟩ := k3 hc0
        exact ⟨A, hA⟩
      · rw [he]; exact k4 hc0
    · intro b' hb'
      cases hb'
      refine ⟨c, e, fun hv => ?_⟩
      rw [hg]
      refine Solid.of ?_
      simp only [Blk.void, Bool.and_eq_false_iff, beq_eq_false_iff_ne, ne_eq]
      unfold voidN at hv
      omega
  · cases hn
mutual
/-- the same value under another environment: the numbers of a form are what the first one says -/
theorem Rep.fill2 {env env' : Env} {ρ ρ' : Pl} : ∀ {u v : SV} {es : List E} {V : Value}, u.form v = true → (∀ j, j < u.nums.length → (es.getD j (.lit 0)).den env' = (u.nums.getD j (.lit 0)).den env) → Rep env ρ u V → Rep env' ρ' (v.fill es) V
  | .int k e, .int k' e', es, V, h, g, hr => by
      have hk : k = k' := by simpa [SV.form] using h
      subst hk
      have := g 0 (by simp [SV.nums])
      simp only [SV.nums, List.getD_cons_zero] at this
      have hr : V = .int k (e.den env) := hr
      show V = .int k _
      rw [hr, ← this]
      cases es <;> rfl
  | .bool b, .bool b', es, V, h, g, hr => by
      have := g 0 (by simp [SV.nums])
      simp only [SV.nums, List.getD_cons_zero] at this
      have hr : V = .bool (b.den env) := hr
      show V = .bool ((es.headD (.lit 0)).den env' != 0)
      rw [show es.headD (.lit 0) = es.getD 0 (.lit 0) by cases es <;> rfl, this, toE_ok, hr]
      cases b.den env <;> rfl
  | .agg l, .agg l', es, V, h, g, hr => by
      obtain ⟨vs, hr, rfl⟩ := hr
      exact ⟨vs, RepL.fill2 (by simpa [SV.form] using h) (by simpa only [SV.nums] using g) hr, rfl⟩
  | .tuple l, .tuple l', es, V, h, g, hr => by
      obtain ⟨vs, hr, rfl⟩ := hr
      exact ⟨vs, RepL.fill2 (by simpa [SV.form] using h) (by simpa only [SV.nums] using g) hr, rfl⟩
  | .int .., .bool _, _, _, h, _, _ | .int .., .ptr _, _, _, h, _, _ | .int .., .slice .., _, _, h, _, _ | .int .., .func .., _, _, h, _, _ | .int .., .nilFunc, _, _, h, _, _ | .int .., .nilIface, _, _, h, _, _ | .int .., .iface .., _, _, h, _, _ | .int .., .str _, _, _, h, _, _ | .int .., .nilMap, _, _, h, _, _ | .int .., .agg _, _, _, h, _, _ | .int .., .tuple _, _, _, h, _, _ | .int .., .any, _, _, h, _, _ | .int .., .vsl .., _, _, h, _, _ | .int .., .vg .., _, _, h, _, _ => by simp [SV.form] at h
  | .bool _, .int .., _, _, h, _, _ | .bool _, .ptr _, _, _, h, _, _ | .bool _, .slice .., _, _, h, _, _ | .bool _, .func .., _, _, h, _, _ | .bool _, .nilFunc, _, _, h, _, _ | .bool _, .nilIface, _, _, h, _, _ | .bool _, .iface .., _, _, h, _, _ | .bool _, .str _, _, _, h, _, _ | .bool _, .nilMap, _, _, h, _, _ | .bool _, .agg _, _, _, h, _, _ | .bool _, .tuple _, _, _, h, _, _ | .bool _, .any, _, _, h, _, _ | .bool _, .vsl .., _, _, h, _, _ | .bool _, .vg .., _, _, h, _, _ => by simp [SV.form] at h
  | .agg _, .int .., _, _, h, _, _ | .agg _, .bool _, _, _, h, _, _ | .agg _, .ptr _, _, _, h, _, _ | .agg _, .slice .., _, _, h, _, _ | .agg _, .func .., _, _, h, _, _ | .agg _, .nilFunc, _, _, h, _, _ | .agg _, .nilIface, _, _, h, _, _ | .agg _, .iface .., _, _, h, _, _ | .agg _, .str _, _, _, h, _, _ | .agg _, .nilMap, _, _, h, _, _ | .agg _, .tuple _, _, _, h, _, _ | .agg _, .any, _, _, h, _, _ | .agg _, .vsl .., _, _, h, _, _ | .agg _, .vg .., _, _, h, _, _ => by simp [SV.form] at h
  | .tuple _, .int .., _, _, h, _, _ | .tuple _, .bool _, _, _, h, _, _ | .tuple _, .ptr _, _, _, h, _, _ | .tuple _, .slice .., _, _, h, _, _ | .tuple _, .func .., _, _, h, _, _ | .tuple _, .nilFunc, _, _, h, _, _ | .tuple _, .nilIface, _, _, h, _, _ | .tuple _, .iface .., _, _, h, _, _ | .tuple _, .str _, _, _, h, _, _ | .tuple _, .nilMap, _, _, h, _, _ | .tuple _, .agg _, _, _, h, _, _ | .tuple _, .any, _, _, h, _, _ | .tuple _, .vsl .., _, _, h, _, _ | .tuple _, .vg .., _, _, h, _, _ => by simp [SV.form] at h
  | .ptr _, _, _, _, h, _, _ | .slice .., _, _, _, h, _, _ | .func .., _, _, _, h, _, _ | .nilFunc, _, _, _, h, _, _ | .nilIface, _, _, _, h, _, _ | .iface .., _, _, _, h, _, _ | .str _, _, _, _, h, _, _ | .nilMap, _, _, _, h, _, _ | .any, _, _, _, h, _, _ | .vsl .., _, _, _, h, _, _ | .vg .., _, _, _, h, _, _ => by simp [SV.form] at h
theorem RepL.fill2 {env env' : Env} {ρ ρ' : Pl} : ∀ {u v : List SV} {es : List E} {vs : List Value}, SV.formL u v = true → (∀ j, j < (SV.numsL u).length → (es.getD j (.lit 0)).den env' = ((SV.numsL u).getD j (.lit 0)).den env) → RepL env ρ u vs → RepL env' ρ' (SV.fillL v es) vs
  | [], [], es, vs, _, _, hr => by rw [show vs = [] from hr]; rfl
  | u :: l, v :: l', es, vs, h, g, hr => by
      simp only [SV.formL, Bool.and_eq_true] at h
      obtain ⟨x, xs, h1, h2, rfl⟩ := hr
      have hl := SV.form_len h.1
      simp only [SV.fillL]
      refine ⟨x, xs, Rep.fill2 h.1 (fun j hj => ?_) h1, RepL.fill2 h.2 (fun j hj => ?_) h2, rfl⟩
      · have := g j (by simp only [SV.numsL, List.length_append]; omega)
        rw [this]
        simp only [SV.numsL, List.getD_eq_getElem?_getD, List.getElem?_append_left hj]
      · have := g (u.nums.length + j) (by simp only [SV.numsL, List.length_append]; omega)
        simp only [SV.numsL, List.getD_eq_getElem?_getD] at this ⊢
        rw [List.getElem?_append_right (by omega), Nat.add_sub_cancel_left] at this
        rw [← this, List.getElem?_drop, hl]
  | [], _ :: _, _, _, h, _, _ => by simp [SV.formL] at h
  | _ :: _, [], _, _, h, _, _ => by simp [SV.formL] at h
end

theorem openO_ok {env : Env} {cx : Ctx} (hc : cx.ok env) {ρ : Pl} {B : Nat} {h : T Blk} {w : World} (hs : HS env ρ B h w) : ∀ {outs : List OC} {vs : List SV} {used : List Nat} {es : List E} {us : List Value} {xs : Nat → Int},
    openO h cx outs vs used = some es → RepL env ρ vs us → (∀ j, j < ocN outs → (es.getD j (.lit 0)).den env = xs j) →
      OutIs w B outs xs (fun q => ∀ b o, b ∈ used → ρ b = some (q, o) → ¬ Solid env o (h.get b)) us
  | [], [], used, es, us, xs, ho, hr, hx => by rw [show us = [] from hr]; rfl
  | [], _ :: _, used, es, us, xs, ho, hr, hx => by simp [openO] at ho
  | .num _ :: _, [], used, es, us, xs, ho, hr, hx => by simp [openO] at ho
  | .row _ _ :: _, [], used, es, us, xs, ho, hr, hx => by simp [openO] at ho
  | .num s :: l, v :: vs, used, es, us, xs, ho, hr, hx => by
      obtain ⟨V, us', hV, hr', rfl⟩ := hr
      simp only [openO] at ho
      cases hf : v.form s with
      | false => rw [hf, cond_false] at ho; cases ho
      | true =>
        rw [hf, cond_true, Option.map_eq_some_iff] at ho
        obtain ⟨es', ho, rfl⟩ := ho
        have hl := SV.form_len hf
        refine ⟨V, us', rfl, fun env' ρ' es2 h2 => ?_, openO_ok hc hs ho hr' fun j hj => ?_⟩
        · refine Rep.fill2 (u := v) hf (fun j hj => ?_) hV
          rw [h2 j (by omega), ← hx j (by simp only [ocN, OC.n]; omega)]
          simp only [List.getD_eq_getElem?_getD, List.getElem?_append_left hj]
        · have := hx (s.nums.length + j) (by simp only [ocN, OC.n]; omega)
          rw [← this]
          simp only [List.getD_eq_getElem?_getD]
          rw [List.getElem?_append_right (by omega)]
          congr 3
          omega
  | .row sig ty :: l, v :: vs, used, es, us, xs, ho, hr, hx => by
      obtain ⟨V, us', hV, hr', rfl⟩ := hr
      simp only [openO] at ho
      split at ho
      case h_2 => cases ho
      rename_i e1 e2 m hn
      split at ho
      case h_2 => cases ho
      rename_i used' hu
      cases hp : Nat.blt 0 sig.length with
      | false => rw [hp, cond_false] at ho; cases ho
      | true =>
        rw [hp, cond_true, Option.map_eq_some_iff] at ho
        obtain ⟨es', ho, rfl⟩ := ho
        have hpos := blt_lt hp
        obtain ⟨r, c, h1, h2, h3, h4⟩ := rowNums_ok hc hs hpos hn hV
        have x0 : e1.den env = xs 0 := hx 0 (by simp only [ocN, OC.n]; omega)
        have x1 : e2.den env = xs 1 := hx 1 (by simp only [ocN, OC.n]; omega)
        rw [x0, x1] at h1
        rw [x1] at h3 h4
        have ih := openO_ok (xs := fun j => xs (2 + j)) hc hs ho hr' fun j hj => by
          have := hx (2 + j) (by simp only [ocN, OC.n]; omega)
          rw [← this]
          simp [List.getD_eq_getElem?_getD, show 2 + j = j + 1 + 1 by omega]
        have hr : ¬ voidN c (xs 1) → B ≤ r := fun hv => ((h1 ⟨fun _ => 0, fun _ _ => 0⟩ (.lit (xs 0)) (.lit (xs 1)) rfl rfl).2 ((void_iff rfl).2 hv)).2
        refine ⟨V, us', r, c, rfl, h1, (fun env' ρ' nb e hq he => h2 env' ρ' nb e hq (by rw [he, x1])), fun hv b o hb hρ hsol => ?_, ?_⟩
        · rcases addRn_ok hu with ⟨rfl, _⟩ | ⟨b0, rfl, rfl, _, hnb⟩
          · exact hv (h3 rfl)
          · obtain ⟨o0, e0, hs0⟩ := h4 b0 rfl
            have := hs.inj b b0 r o o0 hρ e0 (hr hv) hsol (hs0 hv)
            subst this
            exact hnb hb
        · refine ih.le (Nat.le_refl _) fun q hq hf => ⟨fun b o hb => ?_, fun hv he => ?_⟩
          · rcases addRn_ok hu with ⟨_, rfl⟩ | ⟨b0, _, rfl, _, _⟩
            · exact hf b o hb
            · exact hf b o (by simp [hb])
          · subst he
            rcases addRn_ok hu with ⟨rfl, _⟩ | ⟨b0, rfl, rfl, _, hnb⟩
            · exact hv (h3 rfl)
            · obtain ⟨o0, e0, hs0⟩ := h4 b0 rfl
              exact hf b0 o0 (by simp) e0 (hs0 hv)

/-! ### a run that tells the context at its ends -/

def PT.holdsO (env : Env) (Q : Out → T Blk → Prop) : PT → Prop
  | .leaf o s => Q o s.h
  | .ite c t e => (c.den env = true → t.holdsO env Q) ∧ (c.den env = false → e.holdsO env Q)
  | .need c t => c.den env = true ∧ t.holdsO env Q
  | .fail _ => False
theorem PT.holdsO_at {env : Env} {Q : Out → T Blk → Prop} : ∀ {t : PT}, t.holdsO env Q → ∃ o s, t.at env = some (o, s) ∧ Q o s.h
  | .leaf o s, h => ⟨o, s, rfl, h⟩
  | .ite c t e, h => by
      simp only [PT.at]
      cases hc : c.den env with
      | true => simpa using PT.holdsO_at (h.1 hc)
      | false => simpa using PT.holdsO_at (h.2 hc)
  | .need c t, h => by
      simp only [PT.at, h.1, if_true]
      exact PT.holdsO_at h.2
  | .fail _, h => h.elim
theorem PT.holdsO_vt {env : Env} {outs : List OC} {Q : List E → Prop} : ∀ {t : PT}, (t.vtO outs).holds env (fun u => Q u.nums) → t.holdsO env fun o h => ∃ v cx vs es, o = .val v cx ∧ unOne outs v = some vs ∧ openO h cx outs vs [] = some es ∧ Q es
  | .leaf (.val v cx) s, h => by
      simp only [PT.vtO] at h
      split at h
      · rename_i vs hv
        split at h
        · rename_i es he
          refine ⟨v, cx, vs, es, rfl, hv, he, ?_⟩
          have h : Q (numV es).nums := h
          rwa [numV_nums] at h
        · exact h.elim
      · exact h.elim
  | .leaf (.tms _ _) s, h => h.elim
  | .ite c t e, h => ⟨fun hc => PT.holdsO_vt (h.1 hc), fun hc => PT.holdsO_vt (h.2 hc)⟩
  | .need c t, h => ⟨h.1, PT.holdsO_vt h.2⟩
  | .fail _, h => h

theorem calls_runO {P : Program} {X : Par} {env : Env} {fn : Nat → List Int → Int} (hmix : P.follows .mixedOrders = true) (hX : ParOK P fn X) (he : env.f = fn) {n f : Nat} {args : List SV} {vs : List Value} {cx : Ctx} {h0 : T Blk} {nx : Nat} {ρ : Pl} {w : World} {Q : Out → T Blk → Prop}
    (hc : cx.ok env) (ha : RepL env ρ args vs) (hs : HS env ρ w.heap.size h0 w) (h : (run (callT P X n f args cx) ⟨h0, nx, 0, [], [], true⟩).holdsO env Q) :
    Calls P f vs.toArray w fun e w' => ∃ v cx' h' ρ' V, Q (.val v cx') h' ∧ cx'.ok env ∧ e = .returned V ∧ Rep env ρ' v V ∧ ρ.le ρ' ∧ HS env ρ' w.heap.size h' w' ∧ Below w.heap.size w w' := by
  obtain ⟨o, s, hat, hq⟩ := PT.holdsO_at h
  have hrun : runE env (callT P X n f args cx) ⟨h0, nx, 0, [], [], true⟩ = some (o, s) := hat
  intro cs
  obtain ⟨v, cx', s', ρ', V, w', fr', g1, g2, g3, g4, g5, g6, g7, g8, g9, g10⟩ := ((exec_ok (B := w.heap.size) hmix hX n env he).2).call f args cx _ _ _ hrun hc ρ vs w ha hs cs
  simp only [runE, run, PT.at, Option.some.injEq, Prod.mk.injEq] at g1
  obtain ⟨rfl, rfl⟩ := g1
  exact ⟨.returned V, w', fr', ⟨v, cx', s'.h, ρ', V, hq, g2, rfl, g4, g3, g5, g6⟩, g8, g9, g10⟩

theorem unOne_ok {env : Env} {ρ : Pl} {outs : List OC} {v : SV} {vs : List SV} {V : Value} (h : unOne outs v = some vs) (hv : Rep env ρ v V) (hl : outs.length ≠ 1 → vs.length ≠ 1) : ∃ us, RepL env ρ vs us ∧ V = oneV us := by
  unfold unOne at h
  split at h
  · cases h
    exact ⟨[V], ⟨V, [], hv, rfl, rfl⟩, rfl⟩
  · rename_i hne
    cases h
    obtain ⟨us, hr, rfl⟩ := hv
    refine ⟨us, hr, ?_⟩
    have h1 := hr.length
    match us with
    | [] => rfl
    | [u] =>
      exfalso
      refine hl (fun hl => ?_) (by simpa using h1.symm)
      match outs, hl with
      | [x], _ => exact hne x rfl
    | a :: b :: l => rfl
  · cases h

theorem openO_len {h : T Blk} {cx : Ctx} : ∀ {outs : List OC} {vs : List SV} {used : List Nat} {es : List E}, openO h cx outs vs used = some es → vs.length = outs.length ∧ es.length = ocN outs
  | [], [], used, es, ho => by simp only [openO] at ho; cases ho; exact ⟨rfl, rfl⟩
  | [], _ :: _, used, es, ho => by simp [openO] at ho
  | .num _ :: _, [], used, es, ho => by simp [openO] at ho
  | .row _ _ :: _, [], used, es, ho => by simp [openO] at ho
  | .num s :: l, v :: vs, used, es, ho => by
      simp only [openO] at ho
      cases hf : v.form s with
      | false => rw [hf, cond_false] at ho; cases ho
      | true =>
        rw [hf, cond_true, Option.map_eq_some_iff] at ho
        obtain ⟨es', ho, rfl⟩ := ho
        obtain ⟨h1, h2⟩ := openO_len ho
        have hl := SV.form_len hf
        simp only [List.length_cons, List.length_append, ocN, OC.n, h1, h2, hl]
        exact ⟨trivial, trivial⟩
  | .row sig ty :: l, v :: vs, used, es, ho => by
      simp only [openO] at ho
      split at ho
      case h_2 => cases ho
      split at ho
      case h_2 => cases ho
      cases hp : Nat.blt 0 sig.length with
      | false => rw [hp, cond_false] at ho; cases ho
      | true =>
        rw [hp, cond_true, Option.map_eq_some_iff] at ho
        obtain ⟨es', ho, rfl⟩ := ho
        obtain ⟨h1, h2⟩ := openO_len ho
        simp only [List.length_cons, ocN, OC.n, h1, h2]
        exact ⟨trivial, by omega⟩

theorem WC.ok_runC {P : Program} {fn : Nat → List Int → Int} {c : WC} {X : Par} {n : Nat} (hmix : P.follows .mixedOrders = true) (hX : ParOK P fn X) (hent : (entered P c.f).isSome = true)
    (h : ∀ pv w, pvAll w c.shs pv → FnRows fn c.shs pv 0 → (∀ b, b ∈ c.pre → b.den (envOf (pvNums pv) fn) = true) →
      (∀ b, b ∈ c.facts → b.den (envOf (pvNums pv) fn) = true) ∧ (∀ p, p ∈ c.rngs → p.2.1 ≤ p.1.den (envOf (pvNums pv) fn) ∧ p.1.den (envOf (pvNums pv) fn) ≤ p.2.2) ∧
      ∃ cx : Ctx, cx.ok (envOf (pvNums pv) fn) ∧ ((run (callT P X n c.f (rcArgs c.sh) cx) (rcSt c.sh)).vtO c.outs).holds (envOf (pvNums pv) fn) fun u => ∀ j, j < ocN c.outs → (u.nums.getD j (.lit 0)).den (envOf (pvNums pv) fn) = fn (c.K + j) (selV c.sel (envOf (pvNums pv) fn))) : c.OK P fn := by
  refine ⟨hent, fun pv w hw hfn hpre => ?_⟩
  obtain ⟨h1, h2, cx0, hcx0, h3⟩ := h pv w hw hfn hpre
  refine ⟨h1, fun e lo hi hm => h2 _ hm, ?_⟩
  obtain ⟨ρ, p3, p4⟩ := places 0 hw
  have hv : ∀ j, j < (pvNums pv).length → (envOf (pvNums pv) fn).v (0 + j) = (pvNums pv).getD j 0 := fun j hj => by simp [envOf]
  have hs : HS (envOf (pvNums pv) fn) ρ w.heap.size (shStore c.shs 0 0) w := by
    refine ⟨?_, ?_, ?_, Nat.le_refl _, ?_, hX.rows⟩
    · intro b v hg
      obtain ⟨r, o, e, ho, hb⟩ := shStore_blk hw p4 hfn hv b v hg
      exact ⟨r, o, e, fun hvd => ⟨(hb hvd).1, (fun h => by rw [ho] at h; cases h), fun _ => (hb hvd).2⟩⟩
    · intro b p e
      have := p3 b p e
      exact shStore_dom (by omega) (by omega)
    · intro b b' r o o' e e' hr hd hd'
      cases hg : (shStore c.shs 0 0).get b with
      | none =>
        have := p3 b _ e
        exact absurd hg (shStore_dom (by omega) (by omega))
      | some v =>
        rw [hg] at hd
        obtain ⟨r', o', e1, ho, hb⟩ := shStore_blk hw p4 hfn hv b v hg
        rw [e] at e1
        cases e1
        have := (hb hd.void).2
        omega
    · intro b v hg
      obtain ⟨r, o, e, ho, hb⟩ := shStore_blk hw p4 hfn hv b v hg
      cases v with
      | vec => cases ho
      | _ => exact trivial
  refine (calls_runO hmix hX (env := envOf (pvNums pv) fn) rfl hcx0 (selBy_rep (shArgs_rep hw p4 hv)) hs (PT.holdsO_vt (Q := fun es => ∀ j, j < ocN c.outs → (es.getD j (.lit 0)).den (envOf (pvNums pv) fn) = fn (c.K + j) (selV c.sel (envOf (pvNums pv) fn))) h3)).mono ?_
  rintro e w' ⟨v, cx', h', ρ', V, ⟨v', cx2, vs, es, e1, hun, hop, hq⟩, hcx, rfl, hr, _, hs', hb⟩
  cases e1
  obtain ⟨us, hru, rfl⟩ := unOne_ok hun hr (fun hne => by rw [(openO_len hop).1]; exact hne)
  exact ⟨us, rfl, (openO_ok hcx hs' hop hru hq).le (Nat.le_refl _) (fun _ _ _ => trivial), hb⟩
theorem WC.ok_run {P : Program} {fn : Nat → List Int → Int} {c : WC} {X : Par} {d n : Nat} {t : VT} (hmix : P.follows .mixedOrders = true) (hX : ParOK P fn X) (hent : (entered P c.f).isSome = true)
    (ht : (run (callT P X n c.f (rcArgs c.sh) (rcCtx c.sh c.pre d)) (rcSt c.sh)).vtO c.outs = t)
    (h : ∀ pv w, pvAll w c.shs pv → FnRows fn c.shs pv 0 → (∀ b, b ∈ c.pre → b.den (envOf (pvNums pv) fn) = true) →
      (∀ b, b ∈ c.facts → b.den (envOf (pvNums pv) fn) = true) ∧ (∀ p, p ∈ c.rngs → p.2.1 ≤ p.1.den (envOf (pvNums pv) fn) ∧ p.1.den (envOf (pvNums pv) fn) ≤ p.2.2) ∧
      t.holds (envOf (pvNums pv) fn) fun u => ∀ j, j < ocN c.outs → (u.nums.getD j (.lit 0)).den (envOf (pvNums pv) fn) = fn (c.K + j) (selV c.sel (envOf (pvNums pv) fn))) : c.OK P fn :=
  WC.ok_runC (X := X) (n := n) hmix hX hent fun pv w hw hfn hpre =>
    let ⟨h1, h2, h3⟩ := h pv w hw hfn hpre
    ⟨h1, h2, rcCtx c.sh c.pre d, RC.ctx_ok hw hpre, by rw [ht]; exact h3⟩

end Go.SX

namespace Go.SX
open Go Go.RowKit Go.WideShapes Go.ChangeShapes
set_option linter.unusedVariables false
set_option linter.unusedSimpArgs false
set_option linter.unusedSectionVars false

def numForm (m : Nat) : SV := .agg (List.replicate m (.int .i64 (.lit 0)))
theorem numForm_len (m : Nat) : (numForm m).nums.length = m := by
  simp only [numForm, SV.nums]
  induction m with
  | zero => rfl
  | succ m ih => simp only [List.replicate_succ, SV.numsL, SV.nums, List.length_append, ih, List.length_cons, List.length_nil]; omega

/-- a tree with other expressions for its variables -/
def VT.ren (σ : Nat → E) : VT → VT
  | .leaf v => .leaf (v.sub 0 σ)
  | .ite c t e => .ite (c.sub 0 σ) (t.ren σ) (e.ren σ)
  | .need c t => .need (c.sub 0 σ) (t.ren σ)
  | .fail => .fail

mutual
theorem nums_sub {env : Env} {es : List E} : ∀ v : SV, denL env (v.sub 0 (atL es)).nums = denL (env.upd 0 (denL env es)) v.nums
  | .int k e => by simp only [SV.sub, SV.nums, denL, subE_at]
  | .bool b => by simp only [SV.sub, SV.nums, denL, toE_ok, sub_at]
  | .agg l => by simp only [SV.sub, SV.nums]; exact numsL_sub l
  | .tuple l => by simp only [SV.sub, SV.nums]; exact numsL_sub l
  | .ptr _ | .slice .. | .func .. | .nilFunc | .nilIface | .iface .. | .str _ | .nilMap | .any | .vsl .. | .vg .. => rfl
theorem numsL_sub {env : Env} {es : List E} : ∀ l : List SV, denL env (SV.numsL (SV.subL 0 (atL es) l)) = denL (env.upd 0 (denL env es)) (SV.numsL l)
  | [] => rfl
  | v :: l => by simp only [SV.subL, SV.numsL, denL_append, nums_sub v, numsL_sub l]
end
theorem ren_at {env : Env} {es : List E} : ∀ t : VT, denL env ((t.ren (atL es)).at env).nums = denL (env.upd 0 (denL env es)) (t.at (env.upd 0 (denL env es))).nums
  | .leaf v => nums_sub v
  | .ite c t e => by
      simp only [VT.ren, VT.at, sub_at]
      cases c.den (env.upd 0 (denL env es))
      · exact ren_at e
      · exact ren_at t
  | .need c t => ren_at t
  | .fail => rfl

theorem upd0 (env : Env) (a : List Int) : env.upd 0 a = envOf a env.f := by
  unfold Env.upd envOf
  congr 1

/-- the contract of a function that gives a tree's numbers -/
def pairWC (f : Nat) (sh : List (Bool × PSh)) (pre : List BE) (outs : List OC) (K : Nat) (sel : List Nat) (rs : List (Nat × Int × Int)) : WC :=
  ⟨f, sh, outs, K, sel, pre, [], rs.map fun r => (.app (K + r.1) (selE sel), r.2.1, r.2.2)⟩

theorem ren_fn {fn : Nat → List Int → Int} {K m : Nat} {t : VT} (hT : TreeIs fn K m t) {env : Env} (he : env.f = fn) (sel : List Nat) {j : Nat} (hj : j < m) :
    (((t.ren (atL (selE sel))).at env).nums.getD j (.lit 0)).den env = fn (K + j) (selV sel env) := by
  rw [denL_getD, ren_at, selE_den, upd0, he, ← denL_getD, hT j _ hj]
  rfl

theorem pairWC_ok {P : Program} {fn : Nat → List Int → Int} {X : Par} {d n f K : Nat} {sh : List (Bool × PSh)} {pre : List BE} {outs : List OC} {sel : List Nat} {rs : List (Nat × Int × Int)} (t t' : VT)
    (hmix : P.follows .mixedOrders = true) (hX : ParOK P fn X) (hT : TreeIs fn K (ocN outs) t) (hent : (entered P f).isSome = true)
    (ht : (run (callT P X n f (rcArgs sh) (rcCtx sh pre d)) (rcSt sh)).vtO outs = t')
    (hc : t'.clean (numForm (ocN outs)) = true) (ha : agree (t.ren (atL (selE sel))) (rcCtx sh pre d) t' = true) (hr : rngsT (rcCtx sh pre d) (t.ren (atL (selE sel))) rs = true) (hl : (rs.all fun r => Nat.blt r.1 (ocN outs)) = true) :
    (pairWC f sh pre outs K sel rs).OK P fn := by
  refine WC.ok_run (X := X) (d := d) (n := n) (t := t') hmix hX hent ht fun pv w hw hfn hpre => ?_
  have hcx : (rcCtx sh pre d).ok (envOf (pvNums pv) fn) := RC.ctx_ok hw hpre
  refine ⟨by simp [pairWC], ?_, ?_⟩
  · intro p hm
    simp only [pairWC, List.mem_map] at hm
    obtain ⟨⟨j, lo, hi⟩, hm, rfl⟩ := hm
    have h1 := rngsT_ok hcx hr j lo hi hm
    have hj : j < ocN outs := by
      have := List.all_eq_true.1 hl _ hm
      simpa [Nat.blt_eq] using this
    rw [ren_fn hT (env := envOf (pvNums pv) fn) rfl sel hj] at h1
    show lo ≤ fn (K + j) (denL (envOf (pvNums pv) fn) (selE sel)) ∧ fn (K + j) (denL (envOf (pvNums pv) fn) (selE sel)) ≤ hi
    rw [selE_den]
    exact h1
  · have h2 := agree_ok hcx ha
    refine VT.holds_at hc fun j hj => ?_
    rw [h2.2 j]
    exact ren_fn hT rfl sel hj
/-! ### way by way -/

/-- a check that holds on each of some ways, which together are all -/
inductive Ways (chk : Ctx → Bool) : Ctx → Prop
  | one {cx : Ctx} : chk cx = true → Ways chk cx
  | split {cx : Ctx} (b : BE) : Ways chk (assumeJ 50 cx b true) → Ways chk (assumeJ 50 cx b false) → Ways chk cx
theorem Ways.at {chk : Ctx → Bool} {env : Env} {cx : Ctx} (h : Ways chk cx) : cx.ok env → ∃ cx' : Ctx, cx'.ok env ∧ chk cx' = true := by
  induction h with
  | one h => exact fun hc => ⟨_, hc, h⟩
  | split b _ _ ih1 ih2 =>
    intro hc
    cases hb : b.den env with
    | true => exact ih1 (assumeJ_ok 50 hc hb)
    | false => exact ih2 (assumeJ_ok 50 hc hb)
def okT (m : Nat) (tr : VT) (cx : Ctx) (t' : VT) : Bool := t'.clean (numForm m) && agree tr cx t'
/-- on a way a function's tree agrees with another one -/
def wayW (P : Program) (X : Par) (n f : Nat) (sh : List (Bool × PSh)) (outs : List OC) (sel : List Nat) (t : VT) (cx : Ctx) : Bool :=
  okT (ocN outs) (t.ren (atL (selE sel))) cx ((run (callT P X n f (rcArgs sh) cx) (rcSt sh)).vtO outs)
theorem pairWC_ways {P : Program} {fn : Nat → List Int → Int} {X : Par} {d n f K : Nat} {sh : List (Bool × PSh)} {pre : List BE} {outs : List OC} {sel : List Nat} (t : VT)
    (hmix : P.follows .mixedOrders = true) (hX : ParOK P fn X) (hT : TreeIs fn K (ocN outs) t) (hent : (entered P f).isSome = true)
    (hw : Ways (wayW P X n f sh outs sel t) (rcCtx sh pre d)) : (pairWC f sh pre outs K sel []).OK P fn := by
  refine WC.ok_runC (X := X) (n := n) hmix hX hent fun pv w hpv hfn hpre => ?_
  refine ⟨by simp [pairWC], by simp [pairWC], ?_⟩
  obtain ⟨cx, hcx, hk⟩ := hw.at (env := envOf (pvNums pv) fn) (RC.ctx_ok hpv hpre)
  simp only [wayW, okT, Bool.and_eq_true] at hk
  refine ⟨cx, hcx, ?_⟩
  have h2 := agree_ok hcx hk.2
  refine VT.holds_at hk.1 fun j hj => ?_
  exact (h2.2 j).trans (ren_fn hT rfl sel hj)

/-! ### some calls alone -/

def genIf (p : List SV → Bool) (G H : Gen) : Gen := fun f args cx => bif p args then G f args cx else H f args cx
theorem genIf_ok {P : Program} {env : Env} {p : List SV → Bool} {G H : Gen} (hG : GenOK P env G) (hH : GenOK P env H) : GenOK P env (genIf p G H) := by
  intro f args cx g hg
  simp only [genIf] at hg
  cases hp : p args with
  | true => rw [hp, cond_true] at hg; exact hG f args cx g hg
  | false => rw [hp, cond_false] at hg; exact hH f args cx g hg
/-- contracts that are used where the arguments are so -/
def Par.onlyIf (p : List SV → Bool) (Y X : Par) : Par := { X with gen := genIf p Y.gen X.gen }
theorem ParOK.onlyIf {P : Program} {fn : Nat → List Int → Int} {p : List SV → Bool} {Y X : Par} (hY : ParOK P fn Y) (hX : ParOK P fn X) : ParOK P fn (Par.onlyIf p Y X) :=
  ⟨hX.book, hX.loops, hX.rows, fun env he => genIf_ok (hY.gen env he) (hX.gen env he)⟩
theorem ParOK.ways {P : Program} {fn : Nat → List Int → Int} {X : Par} (h : ParOK P fn X) (jr jc : Nat → Bool) (jd : Nat → Option (List Nat)) : ParOK P fn { X with jr := jr, jc := jc, jd := jd } := ⟨h.book, h.loops, h.rows, h.gen⟩
theorem noPar_ok {P : Program} (fn : Nat → List Int → Int) (hr : RowFn fn) : ParOK P fn noPar := ⟨fun env _ => noBook_ok _ _, (fun env _ f i g h => by cases h), hr, fun env _ => noGen_ok _ _⟩
end Go.SX

namespace Go.SX
open Go Go.RowKit Go.WideShapes Go.ChangeShapes
set_option linter.unusedVariables false
set_option linter.unusedSimpArgs false
set_option linter.unusedSectionVars false

inductive WaysP (chk : Ctx → Prop) : Ctx → Prop
  | one {cx : Ctx} : chk cx → WaysP chk cx
  | split {cx : Ctx} (b : BE) : WaysP chk (assumeJ 50 cx b true) → WaysP chk (assumeJ 50 cx b false) → WaysP chk cx
theorem WaysP.at {chk : Ctx → Prop} {env : Env} {cx : Ctx} (h : WaysP chk cx) : cx.ok env → ∃ cx' : Ctx, cx'.ok env ∧ chk cx' := by
  induction h with
  | one h => exact fun hc => ⟨_, hc, h⟩
  | split b _ _ ih1 ih2 =>
    intro hc
    cases hb : b.den env with
    | true => exact ih1 (assumeJ_ok 50 hc hb)
    | false => exact ih2 (assumeJ_ok 50 hc hb)
/-- on a way a law says yes -/
def yesW (P : Program) (X : Par) (n f : Nat) (sh : List PSh) (cx : Ctx) : Bool := (run (callT P X n f (shArgs sh 0 0) cx) (shSt sh)).vt.allYes

theorem calls_ways {P : Program} {sh : List PSh} {l : List PV} {fn : Nat → List Int → Int} {n f d : Nat} {w : World} (hmix : P.follows .mixedOrders = true) (hw : pvAll w sh l) (hfn : FnRows fn sh l 0)
    (hy : WaysP (fun cx => ∃ X, ParOK P fn X ∧ yesW P X n f sh cx = true) (shCtx sh [] d)) :
    Calls P f (pvVals sh l).toArray w fun e w' => e = .returned (.bool true) ∧ Below w.heap.size w w' := by
  have hv : ∀ j, j < (pvNums l).length → (envOf (pvNums l) fn).v (0 + j) = (pvNums l).getD j 0 := fun j hj => by simp [envOf]
  obtain ⟨cx, hcx, X, hX, h⟩ := hy.at (env := envOf (pvNums l) fn) (show (shCtx sh [] d).ok _ from ⟨shRngs_ok hw hv, fun be v h => by simp [shCtx] at h⟩)
  obtain ⟨ρ, h3, h4⟩ := places 0 hw
  have hs : HS (envOf (pvNums l) fn) ρ w.heap.size (shStore sh 0 0) w := by
    refine ⟨?_, ?_, ?_, Nat.le_refl _, ?_, hX.rows⟩
    · intro b v hg
      obtain ⟨r, o, e, ho, hb⟩ := shStore_blk hw h4 hfn hv b v hg
      exact ⟨r, o, e, fun hvd => ⟨(hb hvd).1, (fun h => by rw [ho] at h; cases h), fun _ => (hb hvd).2⟩⟩
    · intro b p e
      have := h3 b p e
      exact shStore_dom (by omega) (by omega)
    · intro b b' r o o' e e' hr hd hd'
      cases hg : (shStore sh 0 0).get b with
      | none =>
        have := h3 b _ e
        exact absurd hg (shStore_dom (by omega) (by omega))
      | some v =>
        rw [hg] at hd
        obtain ⟨r', o', e1, ho, hb⟩ := shStore_blk hw h4 hfn hv b v hg
        rw [e] at e1
        cases e1
        have := (hb hd.void).2
        omega
    · intro b v hg
      obtain ⟨r, o, e, ho, hb⟩ := shStore_blk hw h4 hfn hv b v hg
      cases v with
      | vec => cases ho
      | _ => exact trivial
  exact calls_yes hmix hX rfl hcx (shArgs_rep hw h4 hv) hs (PT.holds_vt (VT.allYes_holds h))

/-- as pairWC_ways, with ranges that the tree shows -/
theorem pairWC_waysR {P : Program} {fn : Nat → List Int → Int} {X : Par} {d n f K : Nat} {sh : List (Bool × PSh)} {pre : List BE} {outs : List OC} {sel : List Nat} {rs : List (Nat × Int × Int)} (t : VT)
    (hmix : P.follows .mixedOrders = true) (hX : ParOK P fn X) (hT : TreeIs fn K (ocN outs) t) (hent : (entered P f).isSome = true)
    (hw : Ways (wayW P X n f sh outs sel t) (rcCtx sh pre d)) (hr : rngsT (rcCtx sh pre d) (t.ren (atL (selE sel))) rs = true) (hl : (rs.all fun r => Nat.blt r.1 (ocN outs)) = true) : (pairWC f sh pre outs K sel rs).OK P fn := by
  refine WC.ok_runC (X := X) (n := n) hmix hX hent fun pv w hpv hfn hpre => ?_
  have hcx0 : (rcCtx sh pre d).ok (envOf (pvNums pv) fn) := RC.ctx_ok hpv hpre
  refine ⟨by simp [pairWC], ?_, ?_⟩
  · intro p hm
    simp only [pairWC, List.mem_map] at hm
    obtain ⟨⟨j, lo, hi⟩, hm, rfl⟩ := hm
    have h1 := rngsT_ok hcx0 hr j lo hi hm
    have hj : j < ocN outs := by
      have := List.all_eq_true.1 hl _ hm
      simpa [Nat.blt_eq] using this
    rw [ren_fn hT (env := envOf (pvNums pv) fn) rfl sel hj] at h1
    show lo ≤ fn (K + j) (denL (envOf (pvNums pv) fn) (selE sel)) ∧ fn (K + j) (denL (envOf (pvNums pv) fn) (selE sel)) ≤ hi
    rw [selE_den]
    exact h1
  · obtain ⟨cx, hcx, hk⟩ := hw.at (env := envOf (pvNums pv) fn) hcx0
    simp only [wayW, okT, Bool.and_eq_true] at hk
    refine ⟨cx, hcx, ?_⟩
    have h2 := agree_ok hcx hk.2
    refine VT.holds_at hk.1 fun j hj => ?_
    exact (h2.2 j).trans (ren_fn hT rfl sel hj)
end Go.SX
