/- Contracts of functions that return rows: new slices, beside numbers. -/
import Derived.Test.YtjgkcgkhcdeadaaSw34
namespace Go.SX
open Go Go.RowKit Go.WideShapes Go.ChangeShapes
set_option linter.unusedVariables false
set_option linter.unusedSimpArgs false
set_option linter.unusedSectionVars false

/-- a component of what is returned: numbers of a form, or a new row (its code and its length) -/
inductive OC where
  | num (s : SV)
  | row (sig : List (Option IntKind)) (ty : TypeId)
def OC.n : OC → Nat
  | .num s => s.nums.length
  | .row _ _ => 2
def ocN : List OC → Nat
  | [] => 0
  | c :: l => c.n + ocN l

/-- a contract: the function, its parameters, its components; their numbers are functions K, K + 1 .. of some of the variables -/
structure WC where
  f : Nat
  sh : List (Bool × PSh)
  outs : List OC
  K : Nat
  sel : List Nat
  pre : List BE := []
  facts : List BE := []
  rngs : Rngs := []
def WC.shs (c : WC) : List PSh := c.sh.map (·.2)
def selE (sel : List Nat) : List E := sel.map E.var
def appsS (K : Nat) (sel : List Nat) (m : Nat) : List E := (List.range m).map fun j => .app (K + j) (selE sel)

def outsT : List OC → List E → (List SV → Tree) → Tree
  | [], _, k => k []
  | .num s :: r, es, k => outsT r (es.drop s.nums.length) fun vs => k (s.fill es :: vs)
  | .row sig ty :: r, es, k => .new (.vec sig (es.getD 0 (.lit 0)) (es.getD 1 (.lit 0)) ty) fun m => outsT r (es.drop 2) fun vs => k (.vg m (es.getD 1 (.lit 0)) :: vs)

def WC.tree (c : WC) (cx : Ctx) (es : List E) (ar : Arrs) (K : SV → Ctx → Tree) : Tree :=
  needArrs (needAll cx (fun cx => outsT c.outs ((appsS c.K c.sel (ocN c.outs)).map (E.sub 0 (atL es))) fun vs =>
      K (oneOf vs) (assumeAll (addRs cx (c.rngs.map fun p => (p.1.sub 0 (atL es), p.2))) (c.facts.map (BE.sub 0 (atL es)))))
    ((shPre c.shs 0 ++ c.pre).map (BE.sub 0 (atL es)))) ar
def WC.gen (c : WC) (G : Gen) : Gen := fun f args cx => bif Nat.beq f c.f then (match rcM c.sh 0 0 args [] with
  | some (l, ar) => bif asgIn 0 (shN c.shs) l then some (c.tree cx (asgL l 0 (shN c.shs)) ar) else G f args cx
  | none => G f args cx) else G f args cx
def WC.par (c : WC) (X : Par) : Par := { X with gen := c.gen X.gen }

/-! ### what is returned -/

/-- a row with these numbers lies at r with capacity c -/
def RowNum (w : World) (B : Nat) (sig : List (Option IntKind)) (ty : TypeId) (code n : Int) (r c : Nat) : Prop :=
  ∀ (env : Env) (e1 e2 : E), e1.den env = code → e2.den env = n → RowObj env w B ⟨sig, ty, e1, e2⟩ r c
def voidN (c : Nat) (n : Int) : Prop := c = 0 ∧ n = 0

def OutIs (w : World) (B : Nat) : List OC → (Nat → Int) → (Nat → Prop) → List Value → Prop
  | [], _, _, vs => vs = []
  | .num s :: l, xs, F, vs => ∃ v vs', vs = v :: vs' ∧ (∀ (env : Env) (ρ : Pl) (es : List E), (∀ j, j < s.nums.length → (es.getD j (.lit 0)).den env = xs j) → Rep env ρ (s.fill es) v) ∧
      OutIs w B l (fun j => xs (s.nums.length + j)) F vs'
  | .row sig ty :: l, xs, F, vs => ∃ v vs' r c, vs = v :: vs' ∧ RowNum w B sig ty (xs 0) (xs 1) r c ∧ (∀ (env : Env) (ρ : Pl) nb e, ρ nb = some (r, c) → e.den env = xs 1 → Rep env ρ (.vg nb e) v) ∧
      (¬ voidN c (xs 1) → F r) ∧ OutIs w B l (fun j => xs (2 + j)) (fun q => F q ∧ (¬ voidN c (xs 1) → q ≠ r)) vs'

theorem void_iff {env : Env} {sig : List (Option IntKind)} {ty : TypeId} {e1 e2 : E} {c : Nat} {n : Int} (h : e2.den env = n) : ((rowBlk ⟨sig, ty, e1, e2⟩).void env c = false) ↔ ¬ voidN c n := by
  simp only [rowBlk, Blk.void, h, voidN, Bool.and_eq_false_iff, beq_eq_false_iff_ne, ne_eq]
  omega

theorem OutIs.le {w : World} {B B' : Nat} (hB : B' ≤ B) : ∀ {outs : List OC} {xs : Nat → Int} {F G : Nat → Prop} {vs : List Value}, (∀ q, B ≤ q → F q → G q) → OutIs w B outs xs F vs → OutIs w B' outs xs G vs
  | [], xs, F, G, vs, h, ho => ho
  | .num s :: l, xs, F, G, vs, h, ho => by
      obtain ⟨v, vs', rfl, h1, h2⟩ := ho
      exact ⟨v, vs', rfl, h1, OutIs.le hB h h2⟩
  | .row sig ty :: l, xs, F, G, vs, h, ho => by
      obtain ⟨v, vs', r, c, rfl, h1, h2, h3, h4⟩ := ho
      have hr : ¬ voidN c (xs 1) → B ≤ r := fun hv => ((h1 ⟨fun _ => 0, fun _ _ => 0⟩ (.lit (xs 0)) (.lit (xs 1)) rfl rfl).2 ((void_iff rfl).2 hv)).2
      refine ⟨v, vs', r, c, rfl, fun env e1 e2 g1 g2 => ?_, h2, fun hv => h r (hr hv) (h3 hv), OutIs.le hB (fun q hq hf => ⟨h q hq hf.1, hf.2⟩) h4⟩
      obtain ⟨k1, k2⟩ := h1 env e1 e2 g1 g2
      exact ⟨k1, fun hv => ⟨(k2 hv).1, Nat.le_trans hB (k2 hv).2⟩⟩

theorem outsT_ok {env : Env} {B : Nat} {w : World} {r : Out × St} : ∀ {outs : List OC} {es : List E} {k : List SV → Tree} {s : St} {ρ : Pl} {xs : Nat → Int} {F : Nat → Prop} {vs : List Value},
    runE env (outsT outs es k) s = some r → HS env ρ B s.h w → OutIs w B outs xs F vs → (∀ j, j < ocN outs → (es.getD j (.lit 0)).den env = xs j) → (∀ q, F q → B ≤ q → ∀ b o, ρ b = some (q, o) → ¬ Solid env o (s.h.get b)) →
    ∃ svs ρ' s', runE env (k svs) s' = some r ∧ ρ.le ρ' ∧ RepL env ρ' svs vs ∧ HS env ρ' B s'.h w
  | [], es, k, s, ρ, xs, F, vs, h, hs, ho, hx, hF => ⟨[], ρ, s, h, ρ.le_refl, by rw [show vs = [] from ho]; rfl, hs⟩
  | .num f :: l, es, k, s, ρ, xs, F, vs, h, hs, ho, hx, hF => by
      obtain ⟨v, vs', rfl, h1, h2⟩ := ho
      simp only [outsT] at h
      obtain ⟨svs, ρ', s', g1, g2, g3, g4⟩ := outsT_ok h hs h2 (fun j hj => by
        have := hx (f.nums.length + j) (by simp only [ocN, OC.n]; omega)
        rw [← this]
        simp [List.getD_eq_getElem?_getD]) hF
      refine ⟨_, ρ', s', g1, g2, ⟨v, vs', h1 env ρ' es (fun j hj => hx j (by simp only [ocN, OC.n]; omega)), g3, rfl⟩, g4⟩
  | .row sig ty :: l, es, k, s, ρ, xs, F, vs, h, hs, ho, hx, hF => by
      obtain ⟨v, vs', r0, c, rfl, h1, h2, h3, h4⟩ := ho
      simp only [outsT] at h
      obtain ⟨hnone, h⟩ := runE_new h
      have x0 := hx 0 (by simp only [ocN, OC.n]; omega)
      have x1 := hx 1 (by simp only [ocN, OC.n]; omega)
      have hobj := h1 env _ _ x0 x1
      have hvi := void_iff (env := env) (sig := sig) (ty := ty) (e1 := es.getD 0 (.lit 0)) (c := c) x1
      have hs1 := hs.addRow hnone hobj (fun hv => hF r0 (h3 (hvi.1 hv)) (hobj.2 hv).2)
      have hle := hs.fresh hnone r0 c
      obtain ⟨svs, ρ', s', g1, g2, g3, g4⟩ := outsT_ok (ρ := ρ.upd s.nx r0 c) h hs1 h4 (fun j hj => by
        have := hx (2 + j) (by simp only [ocN, OC.n]; omega)
        rw [← this]
        simp [List.getD_eq_getElem?_getD]) (fun q hq hB b o e hd => by
        simp only [St.add, T.get_set] at hd
        simp only [Pl.upd] at e
        split at e
        · rename_i hb
          cases e
          rw [if_pos hb] at hd
          exact hq.2 (hvi.1 hd.void) rfl
        · rename_i hb
          rw [if_neg hb] at hd
          exact hF q hq.1 hB b o e hd)
      refine ⟨_, ρ', s', g1, Pl.le_trans hle g2, ⟨v, vs', h2 env ρ' _ _ (g2 _ _ (by simp [Pl.upd])) x1, g3, rfl⟩, g4⟩

/-- the numbers that the functions get -/
def selV (sel : List Nat) (env : Env) : List Int := sel.map env.v
theorem selE_den (env : Env) : ∀ sel : List Nat, denL env (selE sel) = selV sel env
  | [] => rfl
  | i :: l => by
      have := selE_den env l
      simp only [selE, selV, List.map_cons, denL, E.den] at this ⊢
      rw [this]

/-- what is to be shown of a contract -/
structure WC.OK (P : Program) (fn : Nat → List Int → Int) (c : WC) : Prop where
  ent : (entered P c.f).isSome = true
  calls : ∀ pv w, pvAll w c.shs pv → FnRows fn c.shs pv 0 → (∀ b, b ∈ c.pre → b.den (envOf (pvNums pv) fn) = true) →
    (∀ b, b ∈ c.facts → b.den (envOf (pvNums pv) fn) = true) ∧ (∀ e lo hi, (e, lo, hi) ∈ c.rngs → lo ≤ e.den (envOf (pvNums pv) fn) ∧ e.den (envOf (pvNums pv) fn) ≤ hi) ∧
    Calls P c.f (selBy c.sh (pvVals c.shs pv)).toArray w fun e w' => ∃ vs, e = .returned (oneV vs) ∧ OutIs w' w.heap.size c.outs (fun j => fn (c.K + j) (selV c.sel (envOf (pvNums pv) fn))) (fun _ => True) vs ∧ Below w.heap.size w w'

def WC.flatOK (c : WC) : Bool := c.sh.all fun p => match p.2 with | .flat a ks => a || Nat.beq ks.length 1 | .row _ => true

theorem appsS_den {env env' : Env} {σ : Nat → E} (h : ∀ e : E, (e.sub 0 σ).den env = e.den env') {K m j : Nat} {sel : List Nat} (hj : j < m) :
    (((appsS K sel m).map (E.sub 0 σ)).getD j (.lit 0)).den env = env'.f (K + j) (selV sel env') := by
  have : ((appsS K sel m).map (E.sub 0 σ)).getD j (.lit 0) = (E.app (K + j) (selE sel)).sub 0 σ := by
    simp [appsS, List.getD_eq_getElem?_getD, hj]
  rw [this, h]
  show env'.f (K + j) (denL env' (selE sel)) = _
  rw [selE_den]

theorem WC.genOK {P : Program} {fn : Nat → List Int → Int} {c : WC} (hc : c.OK P fn) (hfl : c.flatOK = true) {G : Gen} {env : Env} (he : env.f = fn) (hG : GenOK P env G) : GenOK P env (c.gen G) := by
  intro f args cx g hg hcx B K s r h ρ vs w ha hs cs
  simp only [WC.gen, beq_dec] at hg
  by_cases hf : f = c.f
  case neg => simp only [hf, decide_false, cond_false] at hg; exact hG f args cx g hg hcx B K s r h ρ vs w ha hs cs
  subst hf
  simp only [decide_true, cond_true] at hg
  split at hg
  case h_2 => exact hG _ args cx g hg hcx B K s r h ρ vs w ha hs cs
  rename_i l ar hm
  cases hin : asgIn 0 (shN c.shs) l with
  | false => rw [hin, cond_false] at hg; exact hG _ args cx g hg hcx B K s r h ρ vs w ha hs cs
  | true =>
    rw [hin, cond_true] at hg
    cases hg
    generalize hes : asgL l 0 (shN c.shs) = es at h
    have hlen : es.length = shN c.shs := by rw [← hes]; exact length_asgL _ 0
    have hA := asg_upd (env := env) hin
    rw [hes] at hA
    have hag : Agree 0 env (env.upd 0 (denL env es)) := Env.agree env 0 _
    unfold WC.tree at h
    obtain ⟨harrs, s2, hs2, h⟩ := needArrs_ok h hs
    rw [← hs2] at hs
    obtain ⟨hneeds, cx1, hc1, h⟩ := needAll_ok h hcx
    have hpre : ∀ be, be ∈ shPre c.shs 0 ++ c.pre → be.den (env.upd 0 (denL env es)) = true := fun be hm => by
      have := hneeds (be.sub 0 (atL es)) (List.mem_map.2 ⟨be, hm, rfl⟩)
      rwa [sub_at] at this
    obtain ⟨pv, g1, g2, g3, g4, g5⟩ := rcM_ok hag hm hA ha hfl (fun be hm => hpre be (List.mem_append.2 (.inl hm))) harrs
    have hev : envOf (pvNums pv) fn = env.upd 0 (denL env es) := by
      have := envOf_ext (env' := env.upd 0 (denL env es)) (xs := pvNums pv) (n := shN c.shs) g3 (fun j hj => by
        have := g4 j (by rw [g3]; exact hj)
        rwa [Nat.zero_add] at this) (fun j hj => by
        simp only [Env.upd, Nat.not_lt_zero, if_false, Nat.sub_zero, List.getD_eq_getElem?_getD]
        rw [List.getElem?_eq_none (by rw [length_denL]; omega)]; rfl)
      rw [← he]
      exact this
    obtain ⟨q1, q2, q3⟩ := hc.calls pv w g1 (by rw [← he]; exact g2) (fun b hb => by rw [hev]; exact hpre b (List.mem_append.2 (.inr hb)))
    obtain ⟨⟨fn0, c0⟩, hent⟩ := Option.isSome_iff_exists.1 hc.ent
    obtain ⟨_, _, hcall⟩ := entered_ok hent vs.toArray w
    rw [show selBy c.sh (pvVals c.shs pv) = vs from g5] at q3
    obtain ⟨e, w', fr, ⟨us, rfl, hout, hb⟩, hcomes, hfn, hleave⟩ := q3 cs
    have hs' := hs.below hb
    have hout' : OutIs w' B c.outs (fun j => fn (c.K + j) (selV c.sel (envOf (pvNums pv) fn))) (fun q => w.heap.size ≤ q) us :=
      hout.le hs.size (fun q hq _ => hq)
    obtain ⟨svs, ρ', s', h, hle, hrep, hs3⟩ := outsT_ok h hs' hout' (fun j hj => by
        rw [appsS_den (env' := envOf (pvNums pv) fn) (fun e => by rw [subE_at, hev]) hj]
        rfl)
      (fun q hq hB b o e hd => by
        have := hs.lt' e hd
        omega)
    refine ⟨_, _, s', ρ', oneV us, w', fr, h, ?_, hle, oneOf_rep hrep, hs3, hb.mono hs.size, hcall, hcomes, hfn, hleave⟩
    refine assumeAll_ok (addRs_ok hc1 ?_) ?_
    · intro e lo hi hb
      simp only [List.mem_map] at hb
      obtain ⟨⟨e0, r0⟩, hb0, e1⟩ := hb
      cases e1
      rw [subE_at, ← hev]
      exact q2 e0 _ _ hb0
    · intro b hb
      simp only [List.mem_map] at hb
      obtain ⟨b0, hb0, rfl⟩ := hb
      rw [sub_at, ← hev]
      exact q1 b0 hb0

theorem WC.parOK {P : Program} {fn : Nat → List Int → Int} {c : WC} (hc : c.OK P fn) (hs : c.flatOK = true) {X : Par} (hX : ParOK P fn X) : ParOK P fn (c.par X) :=
  ⟨hX.book, hX.loops, hX.rows, fun env he => WC.genOK hc hs he (hX.gen env he)⟩
end Go.SX
