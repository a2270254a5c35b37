/- Contracts of functions over numbers: each proved by a run of its own, used in a book.
Tests and expressions as plain propositions and numbers.
Values that stand for the same; halving loops; contracts by runs, in a handier form.
Arguments that are slices of flat elements: rows of unknown length.
Functions that give the rows' elements, beside others. -/
import Derived.Test.YtfkkimpcemlmcaaSw17
import Derived.Deep.Slices
namespace Go.SX
open Go Go.RowKit
set_option linter.unusedVariables false
set_option linter.unusedSimpArgs false
set_option linter.unusedSectionVars false

/-- a contract: the function, its parameters, its value over the variables 0, 1 .. of their numbers; what must hold before; what holds then -/
structure FC where
  f : Nat
  sig : List (Bool × List (Option IntKind))
  v : SV
  pre : List BE := []
  facts : List BE := []
  rngs : Rngs := []

def kindNeeds : List (Option IntKind) → List E → List BE
  | some k :: ks, e :: es => .cmp .geq e (.lit k.min) :: .cmp .leq e (.lit k.max) :: kindNeeds ks es
  | none :: ks, _ :: es => kindNeeds ks es
  | _, _ => []
def FC.n (c : FC) : Nat := (kindsAll c.sig).length
def FC.summ (c : FC) (es : List E) : Summ :=
  ⟨kindNeeds (kindsAll c.sig) es ++ c.pre.map (BE.sub 0 (atL es)), c.v.sub 0 (atL es), c.facts.map (BE.sub 0 (atL es)), c.rngs.map fun p => (p.1.sub 0 (atL es), p.2), [], []⟩
def FC.entry (c : FC) (args : List SV) : Option Summ :=
  match matchL 0 (symAll c.sig 0) args [] with
  | some l => bif asgIn 0 c.n l then some (c.summ (asgL l 0 c.n)) else none
  | none => none
def FC.book (c : FC) (B : Book) : Book := fun f args cx => bif Nat.beq f c.f then (match c.entry args with
  | some s => some s
  | none => B f args cx) else B f args cx
def FC.par (c : FC) (X : Par) : Par := { X with book := c.book X.book }

/-- what is to be shown of a contract -/
structure FC.OK (P : Program) (fn : Nat → List Int → Int) (c : FC) : Prop where
  plain : c.v.plain = true
  ent : (entered P c.f).isSome = true
  calls : ∀ r, wfAll c.sig r → (∀ b, b ∈ c.pre → b.den (envOf r.flatten fn) = true) →
    (∀ b, b ∈ c.facts → b.den (envOf r.flatten fn) = true) ∧ (∀ e lo hi, (e, lo, hi) ∈ c.rngs → lo ≤ e.den (envOf r.flatten fn) ∧ e.den (envOf r.flatten fn) ≤ hi) ∧
    ∀ w, Calls P c.f (valAll c.sig r).toArray w fun e w' => ∃ V, e = .returned V ∧ (∀ ρ, Rep (envOf r.flatten fn) ρ c.v V) ∧ Below w.heap.size w w'

mutual
theorem Rep.det {env : Env} {ρ ρ' : Pl} : ∀ {s : SV} {v v' : Value}, s.plain = true → Rep env ρ s v → Rep env ρ' s v' → v = v'
  | .int k e, v, v', _, h, h' => by rw [show v = _ from h, show v' = _ from h']
  | .bool b, v, v', _, h, h' => by rw [show v = _ from h, show v' = _ from h']
  | .str s, v, v', _, h, h' => by rw [show v = _ from h, show v' = _ from h']
  | .nilIface, v, v', _, h, h' => by rw [show v = _ from h, show v' = _ from h']
  | .agg l, v, v', hp, h, h' => by
      obtain ⟨vs, e, rfl⟩ := h
      obtain ⟨vs', e', rfl⟩ := h'
      rw [RepL.det (by simpa [SV.plain] using hp) e e']
  | .tuple l, v, v', hp, h, h' => by
      obtain ⟨vs, e, rfl⟩ := h
      obtain ⟨vs', e', rfl⟩ := h'
      rw [RepL.det (by simpa [SV.plain] using hp) e e']
  | .ptr _, v, v', h, _, _ | .slice .., v, v', h, _, _ | .func .., v, v', h, _, _ | .nilFunc, v, v', h, _, _ | .iface .., v, v', h, _, _ | .nilMap, v, v', h, _, _ | .any, v, v', h, _, _ => by cases h
theorem RepL.det {env : Env} {ρ ρ' : Pl} : ∀ {l : List SV} {vs vs' : List Value}, SV.plainL l = true → RepL env ρ l vs → RepL env ρ' l vs' → vs = vs'
  | [], vs, vs', _, h, h' => by rw [show vs = [] from h, show vs' = [] from h']
  | s :: l, vs, vs', hp, h, h' => by
      simp only [SV.plainL, Bool.and_eq_true] at hp
      obtain ⟨v, us, e1, e2, rfl⟩ := h
      obtain ⟨v', us', e1', e2', rfl⟩ := h'
      rw [Rep.det hp.1 e1 e1', RepL.det hp.2 e2 e2']
end

theorem symL_plain : ∀ (ks : List (Option IntKind)) (i : Nat), SV.plainL (symL ks i) = true
  | [], i => rfl
  | k :: ks, i => by
      simp only [symL, SV.plainL, symL_plain ks (i + 1), Bool.and_true]
      cases k <;> rfl
theorem symAll_plain : ∀ (l : List (Bool × List (Option IntKind))) (i : Nat), SV.plainL (symAll l i) = true
  | [], i => rfl
  | (true, ks) :: l, i => by simp only [symAll, SV.plainL, SV.plain, symL_plain, symAll_plain l, Bool.and_self]
  | (false, ks) :: l, i => by
      simp only [symAll, SV.plainL, symAll_plain l, Bool.and_true]
      cases ks with
      | nil => rfl
      | cons k ks => cases k <;> rfl

/-- numbers parted by parameters -/
def splitAll : List (Bool × List (Option IntKind)) → List Int → List (List Int)
  | [], _ => []
  | (_, ks) :: l, xs => xs.take ks.length :: splitAll l (xs.drop ks.length)
theorem splitAll_flatten : ∀ (l : List (Bool × List (Option IntKind))) (xs : List Int), xs.length = (kindsAll l).length → (splitAll l xs).flatten = xs
  | [], xs, h => by simp [kindsAll] at h; simp [splitAll, h]
  | (b, ks) :: l, xs, h => by
      simp [kindsAll] at h
      simp only [splitAll, List.flatten_cons]
      rw [splitAll_flatten l (xs.drop ks.length) (by simp; omega), List.take_append_drop]
theorem wfL_take : ∀ {ks ks' : List (Option IntKind)} {xs : List Int}, wfL (ks ++ ks') xs → wfL ks (xs.take ks.length) ∧ wfL ks' (xs.drop ks.length)
  | [], ks', xs, h => ⟨rfl, h⟩
  | k :: ks, ks', xs, h => by
      obtain ⟨x, xs', rfl, hw, h⟩ := h
      obtain ⟨h1, h2⟩ := wfL_take h
      exact ⟨⟨x, xs'.take ks.length, rfl, hw, h1⟩, h2⟩
theorem splitAll_wf : ∀ {l : List (Bool × List (Option IntKind))} {xs : List Int}, (l.all fun p => p.1 || Nat.beq p.2.length 1) = true → wfL (kindsAll l) xs → wfAll l (splitAll l xs)
  | [], xs, hb, h => rfl
  | (b, ks) :: l, xs, hb, h => by
      simp only [List.all_cons, Bool.and_eq_true] at hb
      obtain ⟨h1, h2⟩ := wfL_take h
      refine ⟨_, _, rfl, h1, fun e => ?_, splitAll_wf hb.2 h2⟩
      subst e
      have := hb.1
      simp only [Bool.false_or, beq_dec, decide_eq_true_eq] at this
      exact this
theorem kindNeeds_ok {env : Env} : ∀ {ks : List (Option IntKind)} {es : List E}, es.length = ks.length → (∀ b, b ∈ kindNeeds ks es → b.den env = true) → wfL ks (denL env es)
  | [], es, hl, h => by cases es <;> first | rfl | cases hl
  | k :: ks, [], hl, h => by cases hl
  | some k :: ks, e :: es, hl, h => by
      have g1 := h (.cmp .geq e (.lit k.min)) (by simp [kindNeeds])
      have g2 := h (.cmp .leq e (.lit k.max)) (by simp [kindNeeds])
      refine ⟨e.den env, denL env es, rfl, fun k' e' => ?_, kindNeeds_ok (by simpa using hl) fun b hb => h b (by simp [kindNeeds, hb])⟩
      cases e'
      have g1 := of_decide_eq_true g1
      have g2 := of_decide_eq_true g2
      simp only [E.den] at g1 g2
      simp [Lit.wf]
      exact ⟨g1, g2⟩
  | none :: ks, e :: es, hl, h => ⟨e.den env, denL env es, rfl, (fun k' e' => by cases e'), kindNeeds_ok (by simpa using hl) fun b hb => h b (by simpa [kindNeeds] using hb)⟩

theorem FC.bookOK {P : Program} {fn : Nat → List Int → Int} {c : FC} (hc : c.OK P fn) (hs : (c.sig.all fun p => p.1 || Nat.beq p.2.length 1) = true) {B : Book} {env : Env} (he : env.f = fn) (hB : BookOK P env B) : BookOK P env (c.book B) := by
  intro f args cx sm hsm hcx hneeds ρ vs w ha hblks harrs
  simp only [FC.book, beq_dec] at hsm
  by_cases hf : f = c.f
  case neg => simp only [hf, decide_false, cond_false] at hsm; exact hB f args cx sm hsm hcx hneeds ρ vs w ha hblks harrs
  subst hf
  simp only [decide_true, cond_true] at hsm
  split at hsm
  case h_2 => exact hB _ args cx sm hsm hcx hneeds ρ vs w ha hblks harrs
  rename_i s hent
  cases hsm
  simp only [FC.entry] at hent
  split at hent
  case h_2 => cases hent
  rename_i l hm
  cases hin : asgIn 0 c.n l with
  | false => rw [hin] at hent; cases hent
  | true =>
    rw [hin, cond_true] at hent
    cases hent
    generalize hes : asgL l 0 c.n = es at hneeds ⊢
    have hlen : es.length = (kindsAll c.sig).length := by rw [← hes]; exact length_asgL c.n 0
    have hA := asg_upd (env := env) hin
    rw [hes] at hA
    have hag : Agree 0 env (env.upd 0 (denL env es)) := Env.agree env 0 _
    have hrep : RepL (env.upd 0 (denL env es)) ρ (symAll c.sig 0) vs := (matchL_ok hag hm).2 hA ρ vs ha
    have hwf : wfL (kindsAll c.sig) (denL env es) := kindNeeds_ok hlen fun b hb => hneeds b (by simp [FC.summ, hb])
    have hw := splitAll_wf hs hwf
    have hfl : (splitAll c.sig (denL env es)).flatten = denL env es := splitAll_flatten _ _ (by rw [length_denL]; exact hlen)
    have hev : envOf (splitAll c.sig (denL env es)).flatten fn = env.upd 0 (denL env es) := by
      rw [hfl]
      simp only [envOf, Env.upd, Env.mk.injEq]
      refine ⟨?_, he.symm⟩
      funext i
      simp
    have hvs : vs = valAll c.sig (splitAll c.sig (denL env es)) := RepL.det (symAll_plain _ _) hrep (symAll_rep (ρ := ρ) hw (fun j hj => by rw [← hev]; simp [envOf]))
    obtain ⟨q1, q2, q3⟩ := hc.calls _ hw (fun b hb => by
      rw [hev]
      have := hneeds (b.sub 0 (atL es)) (by simp [FC.summ]; exact .inr ⟨b, hb, rfl⟩)
      rwa [sub_at] at this)
    obtain ⟨⟨fn0, c0⟩, hent⟩ := Option.isSome_iff_exists.1 hc.ent
    obtain ⟨_, _, hcall⟩ := entered_ok hent vs.toArray w
    refine ⟨hcall, ?_, ?_, ?_⟩
    · intro b hb
      simp only [FC.summ, List.mem_map] at hb
      obtain ⟨b0, hb0, rfl⟩ := hb
      rw [sub_at, ← hev]
      exact q1 b0 hb0
    · intro e lo hi hb
      simp only [FC.summ, List.mem_map] at hb
      obtain ⟨⟨e0, r0⟩, hb0, e1⟩ := hb
      cases e1
      rw [subE_at, ← hev]
      exact q2 e0 _ _ hb0
    · rw [hvs]
      refine (q3 w).mono ?_
      rintro e w' ⟨V, rfl, hV, hb⟩
      refine ⟨V, rfl, ?_, hb⟩
      have h1 := hV ρ
      rw [hev] at h1
      exact Rep.sub (env := env) (env' := env.upd 0 (denL env es)) rfl (fun i hi => by omega) (fun i hi => by rw [atL_den]; simp [Env.upd]) hc.plain h1

theorem FC.parOK {P : Program} {fn : Nat → List Int → Int} {c : FC} (hc : c.OK P fn) (hs : (c.sig.all fun p => p.1 || Nat.beq p.2.length 1) = true) {X : Par} (hX : ParOK P fn X) : ParOK P fn (c.par X) :=
  ⟨fun env he => FC.bookOK hc hs he (hX.book env he), hX.loops, hX.rows, hX.gen⟩

/-! ### a tree without its stores -/

inductive VT where
  | leaf (v : SV)
  | ite (c : BE) (t e : VT)
  | need (c : BE) (t : VT)
  | fail

def PT.vt : PT → VT
  | .leaf o _ => .leaf o.v
  | .ite c t e => .ite c t.vt e.vt
  | .need c t => .need c t.vt
  | .fail _ => .fail

def VT.holds (env : Env) (Q : SV → Prop) : VT → Prop
  | .leaf v => Q v
  | .ite c t e => (c.den env = true → t.holds env Q) ∧ (c.den env = false → e.holds env Q)
  | .need c t => c.den env = true ∧ t.holds env Q
  | .fail => False

theorem PT.holds_vt {env : Env} {Q : SV → Prop} : ∀ {t : PT}, t.vt.holds env Q → t.holds env fun v _ => Q v
  | .leaf o s, h => h
  | .ite c t e, h => ⟨fun hc => PT.holds_vt (h.1 hc), fun hc => PT.holds_vt (h.2 hc)⟩
  | .need c t, h => ⟨h.1, PT.holds_vt h.2⟩
  | .fail _, h => h

/-- a contract by a run of the function's own -/
theorem FC.ok_run {P : Program} {fn : Nat → List Int → Int} {c : FC} {X : Par} {d n : Nat} {t : VT} (hmix : P.follows .mixedOrders = true) (hX : ParOK P fn X) (hp : c.v.plain = true) (hent : (entered P c.f).isSome = true)
    (ht : (run (callT P X n c.f (symAll c.sig 0) (ctxF c.sig (c.pre.map (·, true)) d)) st0).vt = t)
    (h : ∀ r, wfAll c.sig r → (∀ b, b ∈ c.pre → b.den (envOf r.flatten fn) = true) →
      (∀ b, b ∈ c.facts → b.den (envOf r.flatten fn) = true) ∧ (∀ e lo hi, (e, lo, hi) ∈ c.rngs → lo ≤ e.den (envOf r.flatten fn) ∧ e.den (envOf r.flatten fn) ≤ hi) ∧
      t.holds (envOf r.flatten fn) fun u => ∀ ρ ρ' V, Rep (envOf r.flatten fn) ρ u V → Rep (envOf r.flatten fn) ρ' c.v V) : c.OK P fn := by
  refine ⟨hp, hent, fun r hw hpre => ?_⟩
  obtain ⟨h1, h2, h3⟩ := h r hw hpre
  refine ⟨h1, h2, fun w => ?_⟩
  rw [← ht] at h3
  refine (calls_run hmix hX (env := envOf r.flatten fn) rfl (ctxF_ok hw ?_) (symAll_rep hw (fun j hj => by simp [envOf])) (hs_nil _ hX.rows w) (PT.holds_vt h3)).mono ?_
  · intro be v hm
    obtain ⟨b, hb, e⟩ := List.mem_map.1 hm
    cases e
    exact hpre _ hb
  · rintro e w' ⟨v, h', ρ', V, hq, rfl, hr, _, _, hb⟩
    exact ⟨V, rfl, fun ρ => hq ρ' ρ V hr, hb⟩

end Go.SX

namespace Go.SX
open Go Go.RowKit
set_option linter.unusedVariables false
set_option linter.unusedSimpArgs false

theorem den_ite (env : Env) (c a b : E) : (E.ite c a b).den env = if c.den env = 0 then b.den env else a.den env := by
  simp only [E.den]
  by_cases h : c.den env = 0
  · simp [h]
  · rw [if_neg h, beq_eq_false_iff_ne.2 h]; rfl
theorem den_cmp (env : Env) (o : BinOp) (a b : E) : (E.cmp o a b).den env = if cmpI o (a.den env) (b.den env) = true then 1 else 0 := by
  simp only [E.den]
  cases cmpI o (a.den env) (b.den env) <;> rfl
theorem den_tst (env : Env) (e : E) : ((BE.tst e).den env = true) = ¬ (e.den env = 0) := by simp [BE.den]
theorem den_tstF (env : Env) (e : E) : ((BE.tst e).den env = false) = (e.den env = 0) := by simp [BE.den]
theorem den_cmpB (env : Env) (o : BinOp) (a b : E) : (BE.cmp o a b).den env = cmpI o (a.den env) (b.den env) := rfl
theorem den_negT (env : Env) (b : BE) : ((BE.neg b).den env = true) = (b.den env = false) := by simp [BE.den]
theorem den_negF (env : Env) (b : BE) : ((BE.neg b).den env = false) = (b.den env = true) := by simp [BE.den]
theorem den_andT (env : Env) (a b : BE) : ((BE.and a b).den env = true) = (a.den env = true ∧ b.den env = true) := by simp [BE.den]
theorem den_andF (env : Env) (a b : BE) : ((BE.and a b).den env = false) = (a.den env = false ∨ b.den env = false) := by
  simp only [BE.den, eq_iff_iff]
  cases a.den env <;> simp
theorem lssT (x y : Int) : (cmpI .lss x y = true) = (x < y) := by simp [cmpI]
theorem leqT (x y : Int) : (cmpI .leq x y = true) = (x ≤ y) := by simp [cmpI]
theorem gtrT (x y : Int) : (cmpI .gtr x y = true) = (y < x) := by simp [cmpI]
theorem geqT (x y : Int) : (cmpI .geq x y = true) = (y ≤ x) := by simp [cmpI]
theorem eqlT (x y : Int) : (cmpI .eql x y = true) = (x = y) := by simp [cmpI]
theorem neqT (x y : Int) : (cmpI .neq x y = true) = (x ≠ y) := by simp [cmpI]
theorem lssF (x y : Int) : (cmpI .lss x y = false) = (y ≤ x) := by simp [cmpI]
theorem leqF (x y : Int) : (cmpI .leq x y = false) = (y < x) := by simp [cmpI]
theorem gtrF (x y : Int) : (cmpI .gtr x y = false) = (x ≤ y) := by simp [cmpI]
theorem geqF (x y : Int) : (cmpI .geq x y = false) = (x < y) := by simp [cmpI]
theorem eqlF (x y : Int) : (cmpI .eql x y = false) = (x ≠ y) := by simp [cmpI]
theorem neqF (x y : Int) : (cmpI .neq x y = false) = (x = y) := by simp [cmpI]
theorem den_lit (env : Env) (n : Int) : (E.lit n).den env = n := rfl
theorem den_var (env : Env) (i : Nat) : (E.var i).den env = env.v i := rfl
theorem den_app (env : Env) (f : Nat) (l : List E) : (E.app f l).den env = env.f f (denL env l) := rfl
theorem den_nilL (env : Env) : denL env [] = [] := rfl
theorem den_consL (env : Env) (e : E) (l : List E) : denL env (e :: l) = e.den env :: denL env l := rfl
theorem den_add (env : Env) (a b : E) : (E.op .add a b).den env = a.den env + b.den env := rfl
theorem den_sub (env : Env) (a b : E) : (E.op .sub a b).den env = a.den env - b.den env := rfl
theorem den_mul (env : Env) (a b : E) : (E.op .mul a b).den env = a.den env * b.den env := rfl
theorem den_tdiv (env : Env) (a b : E) : (E.op .tdiv a b).den env = (a.den env).tdiv (b.den env) := rfl
theorem den_tmod (env : Env) (a b : E) : (E.op .tmod a b).den env = (a.den env).tmod (b.den env) := rfl
theorem den_mx (env : Env) (a b : E) : (E.op .mx a b).den env = max (a.den env) (b.den env) := by
  simp only [E.den, O2.ev]; split <;> omega
theorem den_mn (env : Env) (a b : E) : (E.op .mn a b).den env = min (a.den env) (b.den env) := by
  simp only [E.den, O2.ev]; split <;> omega
theorem den_bin (env : Env) (o : BinOp) (k : IntKind) (a b : E) : (E.bin o k a b).den env = binI o k (a.den env) (b.den env) := rfl
theorem env_v (xs : List Int) (f : Nat → List Int → Int) (i : Nat) : (envOf xs f).v i = xs.getD i 0 := rfl
theorem env_f (xs : List Int) (f : Nat → List Int → Int) : (envOf xs f).f = f := rfl
theorem wrap_i64 {n : Int} (h : -9223372036854775808 ≤ n) (h' : n ≤ 9223372036854775807) : IntKind.i64.wrap n = n :=
  wrap_id (k := .i64) (by simp [IntKind.min, IntKind.signed, IntKind.bits]; exact h) (by simp [IntKind.max, IntKind.signed, IntKind.bits]; exact h')
theorem wf_rng {k : IntKind} {x : Int} (h : (Lit.int k x).wf = true) : k.min ≤ x ∧ x ≤ k.max := by simpa [Lit.wf] using h

end Go.SX

namespace Go.SX
open Go Go.RowKit
set_option linter.unusedVariables false
set_option linter.unusedSimpArgs false
set_option linter.unusedSectionVars false

mutual
/-- the same numbers, whatever the expressions -/
def SV.eqv (env : Env) : SV → SV → Prop
  | .int k e, .int k' e' => k = k' ∧ e.den env = e'.den env
  | .bool b, .bool b' => b.den env = b'.den env
  | .agg l, .agg l' => SV.eqvL env l l'
  | .tuple l, .tuple l' => SV.eqvL env l l'
  | .str s, .str s' => s = s'
  | .nilIface, .nilIface => True
  | _, _ => False
def SV.eqvL (env : Env) : List SV → List SV → Prop
  | [], [] => True
  | x :: l, y :: l' => SV.eqv env x y ∧ SV.eqvL env l l'
  | _, _ => False
end

mutual
theorem Rep.eqv {env : Env} {ρ ρ' : Pl} : ∀ {u v : SV} {V : Value}, SV.eqv env u v → Rep env ρ u V → Rep env ρ' v V
  | .int k e, .int k' e', V, h, hr => by obtain ⟨rfl, h⟩ := h; rw [show V = _ from hr]; simp only [Rep, h]
  | .bool b, .bool b', V, h, hr => by rw [show V = _ from hr]; simp only [Rep, show b.den env = b'.den env from h]
  | .agg l, .agg l', V, h, hr => by obtain ⟨vs, h1, h2⟩ := hr; exact ⟨vs, RepL.eqv h h1, h2⟩
  | .tuple l, .tuple l', V, h, hr => by obtain ⟨vs, h1, h2⟩ := hr; exact ⟨vs, RepL.eqv h h1, h2⟩
  | .str s, .str s', V, h, hr => by rw [show V = _ from hr, show s = s' from h]; simp only [Rep]
  | .nilIface, .nilIface, V, h, hr => by rw [show V = _ from hr]; simp only [Rep]
  | .int .., .bool _, _, h, _ | .int .., .ptr _, _, h, _ | .int .., .slice .., _, h, _ | .int .., .func .., _, h, _ | .int .., .nilFunc, _, h, _ | .int .., .nilIface, _, h, _ | .int .., .iface .., _, h, _ | .int .., .str _, _, h, _ | .int .., .nilMap, _, h, _ | .int .., .agg _, _, h, _ | .int .., .tuple _, _, h, _ | .int .., .any, _, h, _ => by simp only [SV.eqv] at h
  | .bool _, .int .., _, h, _ | .bool _, .ptr _, _, h, _ | .bool _, .slice .., _, h, _ | .bool _, .func .., _, h, _ | .bool _, .nilFunc, _, h, _ | .bool _, .nilIface, _, h, _ | .bool _, .iface .., _, h, _ | .bool _, .str _, _, h, _ | .bool _, .nilMap, _, h, _ | .bool _, .agg _, _, h, _ | .bool _, .tuple _, _, h, _ | .bool _, .any, _, h, _ => by simp only [SV.eqv] at h
  | .agg _, .int .., _, h, _ | .agg _, .bool _, _, h, _ | .agg _, .ptr _, _, h, _ | .agg _, .slice .., _, h, _ | .agg _, .func .., _, h, _ | .agg _, .nilFunc, _, h, _ | .agg _, .nilIface, _, h, _ | .agg _, .iface .., _, h, _ | .agg _, .str _, _, h, _ | .agg _, .nilMap, _, h, _ | .agg _, .tuple _, _, h, _ | .agg _, .any, _, h, _ => by simp only [SV.eqv] at h
  | .tuple _, .int .., _, h, _ | .tuple _, .bool _, _, h, _ | .tuple _, .ptr _, _, h, _ | .tuple _, .slice .., _, h, _ | .tuple _, .func .., _, h, _ | .tuple _, .nilFunc, _, h, _ | .tuple _, .nilIface, _, h, _ | .tuple _, .iface .., _, h, _ | .tuple _, .str _, _, h, _ | .tuple _, .nilMap, _, h, _ | .tuple _, .agg _, _, h, _ | .tuple _, .any, _, h, _ => by simp only [SV.eqv] at h
  | .str _, .int .., _, h, _ | .str _, .bool _, _, h, _ | .str _, .ptr _, _, h, _ | .str _, .slice .., _, h, _ | .str _, .func .., _, h, _ | .str _, .nilFunc, _, h, _ | .str _, .nilIface, _, h, _ | .str _, .iface .., _, h, _ | .str _, .nilMap, _, h, _ | .str _, .agg _, _, h, _ | .str _, .tuple _, _, h, _ | .str _, .any, _, h, _ => by simp only [SV.eqv] at h
  | .nilIface, .int .., _, h, _ | .nilIface, .bool _, _, h, _ | .nilIface, .ptr _, _, h, _ | .nilIface, .slice .., _, h, _ | .nilIface, .func .., _, h, _ | .nilIface, .nilFunc, _, h, _ | .nilIface, .iface .., _, h, _ | .nilIface, .str _, _, h, _ | .nilIface, .nilMap, _, h, _ | .nilIface, .agg _, _, h, _ | .nilIface, .tuple _, _, h, _ | .nilIface, .any, _, h, _ => by simp only [SV.eqv] at h
  | .ptr _, _, _, h, _ | .slice .., _, _, h, _ | .func .., _, _, h, _ | .nilFunc, _, _, h, _ | .iface .., _, _, h, _ | .nilMap, _, _, h, _ | .any, _, _, h, _ => by simp only [SV.eqv] at h
theorem RepL.eqv {env : Env} {ρ ρ' : Pl} : ∀ {u v : List SV} {Vs : List Value}, SV.eqvL env u v → RepL env ρ u Vs → RepL env ρ' v Vs
  | [], [], Vs, _, hr => hr
  | x :: l, y :: l', Vs, h, hr => by
      obtain ⟨V, Vs', h1, h2, rfl⟩ := hr
      exact ⟨V, Vs', Rep.eqv h.1 h1, RepL.eqv h.2 h2, rfl⟩
  | [], _ :: _, _, h, _ => by simp only [SV.eqvL] at h
  | _ :: _, [], _, h, _ => by simp only [SV.eqvL] at h
end

/-- a contract by a run of the function's own; what is left is about numbers -/
theorem FC.ok_eqv {P : Program} {fn : Nat → List Int → Int} {c : FC} {X : Par} {d n : Nat} {t : VT} (hmix : P.follows .mixedOrders = true) (hX : ParOK P fn X) (hp : c.v.plain = true) (hent : (entered P c.f).isSome = true)
    (ht : (run (callT P X n c.f (symAll c.sig 0) (ctxF c.sig (c.pre.map (·, true)) d)) st0).vt = t)
    (h : ∀ r, wfAll c.sig r → (∀ b, b ∈ c.pre → b.den (envOf r.flatten fn) = true) →
      (∀ b, b ∈ c.facts → b.den (envOf r.flatten fn) = true) ∧ (∀ p, p ∈ c.rngs → p.2.1 ≤ p.1.den (envOf r.flatten fn) ∧ p.1.den (envOf r.flatten fn) ≤ p.2.2) ∧
      t.holds (envOf r.flatten fn) fun u => u.eqv (envOf r.flatten fn) c.v) : c.OK P fn :=
  FC.ok_run hmix hX hp hent ht fun r hw hpre => by
    obtain ⟨h1, h2, h3⟩ := h r hw hpre
    refine ⟨h1, fun e lo hi hm => h2 _ hm, ?_⟩
    generalize t = t at h3
    induction t with
    | leaf v => exact fun ρ ρ' V hV => Rep.eqv h3 hV
    | ite c t e it ie => exact ⟨fun hc => it (h3.1 hc), fun hc => ie (h3.2 hc)⟩
    | need c t it => exact ⟨h3.1, it h3.2⟩
    | fail => exact h3

/-- what is known at the beginning, ranges out of what must hold -/
def ctxA (l : List (Bool × List (Option IntKind))) (pre : List BE) (d : Nat) : Ctx := assumeAll (ctxF l [] d) pre
theorem ctxA_ok {l : List (Bool × List (Option IntKind))} {r : List (List Int)} {f : Nat → List Int → Int} {pre : List BE} {d : Nat} (h : wfAll l r) (hf : ∀ b, b ∈ pre → b.den (envOf r.flatten f) = true) :
    (ctxA l pre d).ok (envOf r.flatten f) := assumeAll_ok (ctxF_ok h (by simp)) hf

theorem FC.ok_num {P : Program} {fn : Nat → List Int → Int} {c : FC} {X : Par} {d n : Nat} {t : VT} (hmix : P.follows .mixedOrders = true) (hX : ParOK P fn X) (hp : c.v.plain = true) (hent : (entered P c.f).isSome = true)
    (ht : (run (callT P X n c.f (symAll c.sig 0) (ctxA c.sig c.pre d)) st0).vt = t)
    (h : ∀ r, wfAll c.sig r → (∀ b, b ∈ c.pre → b.den (envOf r.flatten fn) = true) →
      (∀ b, b ∈ c.facts → b.den (envOf r.flatten fn) = true) ∧ (∀ p, p ∈ c.rngs → p.2.1 ≤ p.1.den (envOf r.flatten fn) ∧ p.1.den (envOf r.flatten fn) ≤ p.2.2) ∧
      t.holds (envOf r.flatten fn) fun u => u.eqv (envOf r.flatten fn) c.v) : c.OK P fn := by
  refine ⟨hp, hent, fun r hw hpre => ?_⟩
  obtain ⟨h1, h2, h3⟩ := h r hw hpre
  refine ⟨h1, fun e lo hi hm => h2 _ hm, fun w => ?_⟩
  rw [← ht] at h3
  refine (calls_run hmix hX (env := envOf r.flatten fn) rfl (ctxA_ok hw hpre) (symAll_rep hw (fun j hj => by simp [envOf])) (hs_nil _ hX.rows w) (PT.holds_vt h3)).mono ?_
  rintro e w' ⟨v, h', ρ', V, hq, rfl, hr, _, _, hb⟩
  exact ⟨V, rfl, fun ρ => Rep.eqv hq hr, hb⟩

/-- a loop over two numbers that halves what lies between them -/
theorem runs_halve {env : Env} {L : LC} {c a b : Int} (hct : ∀ lo hi, a ≤ lo → lo ≤ hi → hi ≤ b → L.ct.ev (env.upd L.base [lo, hi]) = if lo < hi then (if c ≤ (lo + hi) / 2 then some (0, [lo, (lo + hi) / 2]) else some (0, [(lo + hi) / 2 + 1, hi])) else some (1, [lo]))
    (hh : ∀ lo hi, a ≤ lo → lo ≤ hi → hi ≤ b → HeadOK env L [lo, hi]) : ∀ (n : Nat) (lo hi : Int), (hi - lo).toNat ≤ n → a ≤ lo → lo ≤ hi → hi ≤ b → Runs env L [lo, hi] 0 [max lo (min hi c)]
  | 0, lo, hi, hn, h1, h2, h3 => by
      obtain rfl : lo = hi := by omega
      refine .exit (hh _ _ h1 h2 h3) ?_
      rw [hct _ _ h1 h2 h3, if_neg (by omega)]
      rw [show max lo (min lo c) = lo by omega]
  | n + 1, lo, hi, hn, h1, h2, h3 => by
      by_cases hlt : lo < hi
      · by_cases hc : c ≤ (lo + hi) / 2
        · refine .again (xs' := [lo, (lo + hi) / 2]) (hh _ _ h1 h2 h3) (by rw [hct _ _ h1 h2 h3, if_pos hlt, if_pos hc]) ?_
          have := runs_halve hct hh n lo ((lo + hi) / 2) (by omega) h1 (by omega) (by omega)
          rw [show max lo (min hi c) = max lo (min ((lo + hi) / 2) c) by omega]
          exact this
        · refine .again (xs' := [(lo + hi) / 2 + 1, hi]) (hh _ _ h1 h2 h3) (by rw [hct _ _ h1 h2 h3, if_pos hlt, if_neg hc]) ?_
          have := runs_halve hct hh n ((lo + hi) / 2 + 1) hi (by omega) (by omega) (by omega) h3
          rw [show max lo (min hi c) = max ((lo + hi) / 2 + 1) (min hi c) by omega]
          exact this
      · obtain rfl : lo = hi := by omega
        refine .exit (hh _ _ h1 h2 h3) ?_
        rw [hct _ _ h1 h2 h3, if_neg (by omega)]
        rw [show max lo (min lo c) = lo by omega]
end Go.SX

namespace Go.SX
open Go Go.RowKit Go.WideShapes Go.ChangeShapes
set_option linter.unusedVariables false
set_option linter.unusedSimpArgs false
set_option linter.unusedSectionVars false

/-- the shape of a parameter: a struct or an array (true) or one cell (false), flat; or a slice of flat elements -/
inductive PSh where
  | flat (agg : Bool) (ks : List (Option IntKind))
  | row (ks : List (Option IntKind))

structure RowD where
  len : Nat
  xs : Nat → Nat → Int

inductive PV where
  | flat (xs : List Int)
  | row (d : RowD) (v : Value)

/-- a slice value stands for a row that lies at r, o -/
def RowIs (w : World) (ks : List (Option IntKind)) (d : RowD) (v : Value) (r o : Nat) : Prop :=
  (d.len = 0 ∧ ∃ A c, v = .slice A 0 c) ∨ (∃ c, d.len ≤ c ∧ v = .slice (some ⟨r, o, none⟩) d.len c ∧ r < w.heap.size ∧ ∃ cs t fz, w.heap[r]? = some (.cells cs t fz) ∧
    ∀ (i j : Nat) (k : Option IntKind), i < d.len → ks[j]? = some k → cs[o + (ks.length * i + j)]? = some (cellW k (d.xs i j)) ∧ ∀ kd, k = some kd → kd.min ≤ d.xs i j ∧ d.xs i j ≤ kd.max)

def PV.val : PSh → PV → Value
  | .flat true ks, .flat xs => .agg (valsL ks xs).toArray
  | .flat false ks, .flat xs => (valsL ks xs).getD 0 undef
  | _, .row _ v => v
  | .row _, .flat _ => undef
def PV.ok (w : World) : PSh → PV → Prop
  | .flat b ks, .flat xs => wfL ks xs ∧ (b = false → ks.length = 1)
  | .row ks, .row d v => (d.len : Int) ≤ 9223372036854775807 ∧ ∃ r o, RowIs w ks d v r o
  | _, _ => False
def pvAll (w : World) : List PSh → List PV → Prop
  | [], l => l = []
  | s :: sh, l => ∃ p l', l = p :: l' ∧ p.ok w s ∧ pvAll w sh l'
def pvVals : List PSh → List PV → List Value
  | s :: sh, p :: l => p.val s :: pvVals sh l
  | _, _ => []
def PV.nums : PV → List Int
  | .flat xs => xs
  | .row d _ => [(d.len : Int)]
def pvNums : List PV → List Int
  | [] => []
  | p :: l => p.nums ++ pvNums l

def shArgs : List PSh → Nat → Nat → List SV
  | [], _, _ => []
  | .flat true ks :: l, i, b => .agg (symL ks i) :: shArgs l (i + ks.length) b
  | .flat false ks :: l, i, b => (symL ks i).getD 0 (.tuple []) :: shArgs l (i + ks.length) b
  | .row _ :: l, i, b => .vsl b (.var i) :: shArgs l (i + 1) (b + 1)
/-- the names of the functions that give a row's elements -/
def rowF (b : Nat) : Nat := 5000 + 100 * b
def shStore : List PSh → Nat → Nat → T Blk
  | [], _, _ => .nil
  | .flat _ ks :: l, i, b => shStore l (i + ks.length) b
  | .row ks :: l, i, b => (shStore l (i + 1) (b + 1)).set b (.arr ks (rowF b) [] (.var i))
def shRngs : List PSh → Nat → List (E × Int × Int)
  | [], _ => []
  | .flat _ ks :: l, i => symB ks i ++ shRngs l (i + ks.length)
  | .row _ :: l, i => (.var i, 0, 9223372036854775807) :: shRngs l (i + 1)
def shRows : List PSh → Nat
  | [] => 0
  | .flat _ _ :: l => shRows l
  | .row _ :: l => shRows l + 1
def shCtx (sh : List PSh) (facts : List (BE × Bool)) (d : Nat) : Ctx := ⟨shRngs sh 0, facts, d⟩
def shSt (sh : List PSh) : St := ⟨shStore sh 0 0, shRows sh, 0, [], [], true⟩

section
variable {H : Type} {enc : TypeId × Value → H} {P : Program} {w : World} {base : Nat} {spare : Nat → Bool} {held : Bool}

theorem valsL_get : ∀ {ks : List (Option IntKind)} {xs : List Int} {j : Nat} {k : Option IntKind}, wfL ks xs → ks[j]? = some k → (valsL ks xs)[j]? = some (cellW k (xs.getD j 0)) ∧ ∀ kd, k = some kd → kd.min ≤ xs.getD j 0 ∧ xs.getD j 0 ≤ kd.max
  | [], xs, j, k, h, hk => by simp at hk
  | q :: ks, xs, j, k, h, hk => by
      obtain ⟨x, xs', rfl, h1, h2⟩ := h
      cases j with
      | zero =>
        simp at hk
        subst hk
        refine ⟨by cases q <;> simp [valsL, cellV, cellW], fun kd e => ?_⟩
        simpa using wf_rng (h1 kd e)
      | succ j =>
        simp only [List.getElem?_cons_succ] at hk
        simpa [valsL] using valsL_get h2 hk

/-- a slice of flat elements -/
theorem open_row {r : Reach} {b0 : Nat} {t e : TypeId} {v : Value} {d : DataW H} {p : List MemPlace} (hs : P.underlying t = some (.slice e)) (n : Nat) {ks : List (Option IntKind)} (hk : flatK P n e = some ks) (hl : ks.length = P.cellsOf e) (hpos : ks.length ≠ 0)
    (hv : Value.okWide P w r b0 t v) (h : DataW.Trod enc P w base spare held t v d p) : ∃ D : RowD, (D.len : Int) ≤ 9223372036854775807 ∧ ∃ rr o, RowIs w ks D v rr o := by
  obtain ⟨a0, len0, cap0, rfl⟩ := okWide_slice hs hv
  obtain ⟨fuel, hf⟩ := h
  rcases Go.Deep.open_slice hs hf with ⟨e0, _⟩ | ⟨a, len, cap, m, fu, D, Pl, e0, hb, hlc, hm, hmm, _, hx⟩
  · simp [Value.cells] at e0
    obtain ⟨rfl, rfl, rfl⟩ := e0
    exact ⟨⟨0, fun _ _ => 0⟩, by simp, 0, 0, .inl ⟨rfl, none, 0, rfl⟩⟩
  · simp [Value.cells] at e0
    obtain ⟨rfl, rfl, rfl⟩ := e0
    unfold maxLen at hm
    by_cases hz : len0 = 0
    · subst hz
      exact ⟨⟨0, fun _ _ => 0⟩, by simp, 0, 0, .inl ⟨rfl, some a, cap0, rfl⟩⟩
    · have hlm : len0 ≤ m := by rw [hmm]; split <;> omega
      have each : ∀ i, i < len0 → ∃ xs : List Int, wfL ks xs ∧ ∀ j k, ks[j]? = some k → w.cell? ((a.add (i * P.cellsOf e)).add j) = some (cellW k (xs.getD j 0)) := by
        intro i hi
        obtain ⟨cs', h1, h2⟩ := hx i (by omega)
        obtain ⟨_, hlen, hcell⟩ := World.cells?_some h1
        obtain ⟨xs, e1, hw⟩ := (flatK_ok n hk hl h2).numbers
        refine ⟨xs, hw, fun j k hjk => ?_⟩
        have hj : j < ks.length := (List.getElem?_eq_some_iff.1 hjk).1
        rw [hcell j (by omega), e1]
        exact (valsL_get hw hjk).1
      obtain ⟨X, hX⟩ := Go.Deep.choose_lt each
      -- the block
      have k0 : ∃ k, ks[0]? = some k := by
        cases ks with
        | nil => exact absurd rfl hpos
        | cons q ks => exact ⟨q, rfl⟩
      obtain ⟨k0, hk0⟩ := k0
      have c0 := (hX 0 (by omega)).2 0 k0 hk0
      have a00 : (a.add (0 * P.cellsOf e)).add 0 = a := by simp [Addr.add]
      rw [a00] at c0
      unfold World.cell? at c0
      split at c0
      · rename_i cs t' fz hob
        split at c0
        · cases c0
        · rename_i hsp
          obtain ⟨ab, ao, asp⟩ := a
          have hsp' : asp = none := by simpa using hsp
          subst hsp'
          refine ⟨⟨len0, fun i j => (X i).getD j 0⟩, by simp only; omega, ab, ao, .inr ⟨cap0, hlc, rfl, (Array.getElem?_eq_some_iff.1 hob).1, cs, t', fz, hob, ?_⟩⟩
          intro i j k hi hjk
          obtain ⟨q1, q2⟩ := hX i hi
          refine ⟨?_, (valsL_get q1 hjk).2⟩
          have := q2 j k hjk
          rw [Addr.add', Addr.add'] at this
          unfold World.cell? at this
          rw [hob] at this
          simp only [Option.isSome_none, Bool.false_eq_true, if_false] at this
          rw [← this, hl]
          congr 1
          rw [Nat.mul_comm]; omega
      · cases c0
end

/-- the functions give the rows' elements -/
def FnRows (f : Nat → List Int → Int) : List PSh → List PV → Nat → Prop
  | .row ks :: sh, .row d _ :: l, b => (∀ i j, i < d.len → j < ks.length → f (rowF b + j) [(i : Int)] = d.xs i j) ∧ FnRows f sh l (b + 1)
  | .flat _ _ :: sh, _ :: l, b => FnRows f sh l b
  | _, _, _ => True
def PlRows (w : World) (ρ : Pl) : List PSh → List PV → Nat → Prop
  | .row ks :: sh, .row d v :: l, b => (∃ r o, ρ b = some (r, o) ∧ RowIs w ks d v r o) ∧ PlRows w ρ sh l (b + 1)
  | .flat _ _ :: sh, _ :: l, b => PlRows w ρ sh l b
  | _, _, _ => True
theorem PlRows.congr {w : World} {ρ ρ' : Pl} : ∀ {sh : List PSh} {l : List PV} {b : Nat}, (∀ n, b ≤ n → ρ' n = ρ n) → PlRows w ρ sh l b → PlRows w ρ' sh l b
  | [], _, _, _, _ => trivial
  | .row _ :: _, [], _, _, _ => trivial
  | .flat _ _ :: _, [], _, _, _ => trivial
  | .flat _ _ :: sh, p :: l, b, h, hp => PlRows.congr (sh := sh) (l := l) h hp
  | .row _ :: _, .flat _ :: _, _, _, _ => trivial
  | .row ks :: sh, .row d v :: l, b, h, hp => by
      obtain ⟨⟨r, o, e, hr⟩, h2⟩ := hp
      exact ⟨⟨r, o, by rw [h b (Nat.le_refl _)]; exact e, hr⟩, PlRows.congr (fun n hn => h n (by omega)) h2⟩

/-- places for the rows -/
theorem places {w : World} : ∀ {sh : List PSh} {l : List PV} (b : Nat), pvAll w sh l → ∃ ρ : Pl, (∀ n p, ρ n = some p → b ≤ n ∧ n < b + shRows sh) ∧ PlRows w ρ sh l b
  | [], l, b, h => ⟨fun _ => none, (fun n p e => by cases e), trivial⟩
  | .flat ag ks :: sh, l, b, h => by
      obtain ⟨p, l', rfl, _, h2⟩ := h
      obtain ⟨ρ, h3, h4⟩ := places b h2
      exact ⟨ρ, h3, h4⟩
  | .row ks :: sh, l, b, h => by
      obtain ⟨p, l', rfl, h1, h2⟩ := h
      obtain ⟨ρ, h3, h4⟩ := places (b + 1) h2
      cases p with
      | flat xs => exact h1.elim
      | row d v =>
        obtain ⟨_, r, o, hr⟩ := h1
        refine ⟨fun n => if n = b then some (r, o) else ρ n, ?_, ⟨r, o, by simp, hr⟩, h4.congr fun n hn => by simp only [if_neg (show ¬ n = b by omega)]⟩
        intro n q e
        simp only [shRows]
        dsimp only at e
        split at e
        · omega
        · have := h3 n q e; omega

theorem shRngs_ok {w : World} {env : Env} : ∀ {sh : List PSh} {l : List PV} {i : Nat}, pvAll w sh l → (∀ j, j < (pvNums l).length → env.v (i + j) = (pvNums l).getD j 0) → ∀ e lo hi, (e, lo, hi) ∈ shRngs sh i → lo ≤ e.den env ∧ e.den env ≤ hi
  | [], l, i, h, hv, e, lo, hi, hm => by simp [shRngs] at hm
  | .flat ag ks :: sh, l, i, h, hv, e, lo, hi, hm => by
      obtain ⟨p, l', rfl, h1, h2⟩ := h
      cases p with
      | row d v => exact h1.elim
      | flat xs =>
        obtain ⟨hw, _⟩ := h1
        have hlen := hw.length
        simp only [shRngs, List.mem_append] at hm
        simp only [pvNums, PV.nums, List.length_append] at hv
        rcases hm with hm | hm
        · refine symB_ok hw (fun j hj => ?_) e lo hi hm
          rw [hv j (by omega)]
          simp [List.getD, List.getElem?_append_left hj]
        · refine shRngs_ok h2 (fun j hj => ?_) e lo hi hm
          have := hv (ks.length + j) (by omega)
          rw [← hlen] at this ⊢
          rw [show i + xs.length + j = i + (xs.length + j) by omega, this]
          simp [List.getD, List.getElem?_append_right]
  | .row ks :: sh, l, i, h, hv, e, lo, hi, hm => by
      obtain ⟨p, l', rfl, h1, h2⟩ := h
      cases p with
      | flat xs => exact h1.elim
      | row d v =>
        simp only [shRngs, List.mem_cons] at hm
        simp only [pvNums, PV.nums, List.cons_append, List.nil_append, List.length_cons] at hv
        rcases hm with hm | hm
        · cases hm
          have := hv 0 (by omega)
          simp at this
          simp only [E.den, this]
          have := h1.1
          omega
        · refine shRngs_ok h2 (fun j hj => ?_) e lo hi hm
          have := hv (j + 1) (by omega)
          rw [show i + 1 + j = i + (j + 1) by omega, this]
          simp

theorem shArgs_rep {w : World} {env : Env} {ρ : Pl} : ∀ {sh : List PSh} {l : List PV} {i b : Nat}, pvAll w sh l → PlRows w ρ sh l b → (∀ j, j < (pvNums l).length → env.v (i + j) = (pvNums l).getD j 0) → RepL env ρ (shArgs sh i b) (pvVals sh l)
  | [], l, i, b, h, _, hv => by subst h; rfl
  | .flat ag ks :: sh, l, i, b, h, hp, hv => by
      obtain ⟨p, l', rfl, h1, h2⟩ := h
      cases p with
      | row d v => exact h1.elim
      | flat xs =>
        obtain ⟨hw, h1⟩ := h1
        have hlen := hw.length
        simp only [pvNums, PV.nums, List.length_append] at hv
        have ih := shArgs_rep (i := i + ks.length) h2 hp (fun j hj => by
          have := hv (ks.length + j) (by omega)
          rw [← hlen] at this ⊢
          rw [show i + xs.length + j = i + (xs.length + j) by omega, this]
          simp [List.getD, List.getElem?_append_right])
        have hs : RepL env ρ (symL ks i) (valsL ks xs) := symL_rep hw (fun j hj => by
          rw [hv j (by omega)]
          simp [List.getD, List.getElem?_append_left hj])
        cases ag with
        | true => exact ⟨_, _, ⟨_, hs, rfl⟩, ih, rfl⟩
        | false =>
          refine ⟨_, _, ?_, ih, rfl⟩
          have hl1 := h1 rfl
          match ks, xs, hl1, hlen, hs with
          | [k], [x], _, _, hs =>
            obtain ⟨u, us, hu, _, e⟩ := hs
            simp only [PV.val, valsL, List.getD_cons_zero, symL] at e ⊢
            cases e
            exact hu
  | .row ks :: sh, l, i, b, h, hp, hv => by
      obtain ⟨p, l', rfl, h1, h2⟩ := h
      cases p with
      | flat xs => exact h1.elim
      | row d v =>
        obtain ⟨⟨r, o, e, hr⟩, hp2⟩ := hp
        simp only [pvNums, PV.nums, List.cons_append, List.nil_append, List.length_cons] at hv
        have ih := shArgs_rep (i := i + 1) (b := b + 1) h2 hp2 (fun j hj => by
          have := hv (j + 1) (by omega)
          rw [show i + 1 + j = i + (j + 1) by omega, this]
          simp)
        have h0 : env.v i = (d.len : Int) := by have := hv 0 (by omega); simpa using this
        refine ⟨_, _, ?_, ih, rfl⟩
        refine ⟨r, o, e, by simp only [E.den, h0]; omega, ?_⟩
        simp only [E.den, h0, PV.val]
        rcases hr with ⟨hz, hA⟩ | ⟨c, hc, hv2, _⟩
        · exact .inl ⟨by omega, hA⟩
        · exact .inr ⟨c, by omega, by rw [hv2]; simp⟩

theorem shStore_blk {w : World} {env : Env} {ρ : Pl} : ∀ {sh : List PSh} {l : List PV} {i b : Nat}, pvAll w sh l → PlRows w ρ sh l b → FnRows env.f sh l b → (∀ j, j < (pvNums l).length → env.v (i + j) = (pvNums l).getD j 0) →
    ∀ n v, (shStore sh i b).get n = some v → ∃ r o, ρ n = some (r, o) ∧ v.own = false ∧ (v.void env o = false → BS env ρ (w.heap[r]?) o v ∧ r < w.heap.size)
  | [], l, i, b, h, _, _, hv, n, v, hg => by cases hg
  | .flat ag ks :: sh, l, i, b, h, hp, hf, hv, n, v, hg => by
      obtain ⟨p, l', rfl, h1, h2⟩ := h
      cases p with
      | row d v => exact h1.elim
      | flat xs =>
        have hlen := h1.1.length
        simp only [pvNums, PV.nums, List.length_append] at hv
        exact shStore_blk (i := i + ks.length) h2 hp hf (fun j hj => by
          have := hv (ks.length + j) (by omega)
          rw [← hlen] at this ⊢
          rw [show i + xs.length + j = i + (xs.length + j) by omega, this]
          simp [List.getD, List.getElem?_append_right]) n v hg
  | .row ks :: sh, l, i, b, h, hp, hf, hv, n, v, hg => by
      obtain ⟨p, l', rfl, h1, h2⟩ := h
      cases p with
      | flat xs => exact h1.elim
      | row d u =>
        obtain ⟨⟨r, o, e, hr⟩, hp2⟩ := hp
        obtain ⟨hf1, hf2⟩ := hf
        simp only [pvNums, PV.nums, List.cons_append, List.nil_append, List.length_cons] at hv
        have h0 : env.v i = (d.len : Int) := by have := hv 0 (by omega); simpa using this
        simp only [shStore] at hg
        rw [T.get_set] at hg
        split at hg
        · rename_i hn
          subst hn
          cases hg
          refine ⟨r, o, e, rfl, fun hvoid => ?_⟩
          simp only [Blk.void, E.den, h0, beq_eq_false_iff_ne, ne_eq] at hvoid
          rcases hr with ⟨hz, _⟩ | ⟨c, hc, hv2, hlt, cs, t, fz, hob, hcs⟩
          · exact absurd (by rw [hz]; rfl) hvoid
          · refine ⟨⟨cs, t, fz, hob, by simp only [E.den, h0]; omega, fun a j k ha hk => ?_⟩, hlt⟩
            simp only [E.den, h0] at ha
            have hj : j < ks.length := (List.getElem?_eq_some_iff.1 hk).1
            obtain ⟨q1, q2⟩ := hcs a j k (by omega) hk
            have := hf1 a j (by omega) hj
            simp only [denL, List.nil_append]
            rw [this]
            exact ⟨q1, q2⟩
        · exact shStore_blk (i := i + 1) (b := b + 1) h2 hp2 hf2 (fun j hj => by
            have := hv (j + 1) (by omega)
            rw [show i + 1 + j = i + (j + 1) by omega, this]
            simp) n v hg

theorem shStore_dom : ∀ {sh : List PSh} {i b n : Nat}, b ≤ n → n < b + shRows sh → (shStore sh i b).get n ≠ none
  | [], i, b, n, h1, h2 => by simp [shRows] at h2; omega
  | .flat ag ks :: sh, i, b, n, h1, h2 => shStore_dom (sh := sh) (i := i + ks.length) h1 h2
  | .row ks :: sh, i, b, n, h1, h2 => by
      simp only [shStore]
      rw [T.get_set]
      split
      · simp
      · exact shStore_dom (sh := sh) (i := i + 1) (by omega) (by simp only [shRows] at h2; omega)

/-- a law over such parameters: yes on every way -/
theorem calls_rows {P : Program} {X : Par} {sh : List PSh} {l : List PV} {fn : Nat → List Int → Int} {n f d : Nat} {w : World} {t : VT} {facts : List (BE × Bool)}
    (hmix : P.follows .mixedOrders = true) (hX : ParOK P fn X) (hw : pvAll w sh l) (hfn : FnRows fn sh l 0) (hf : ∀ be v, (be, v) ∈ facts → be.den (envOf (pvNums l) fn) = v)
    (ht : (run (callT P X n f (shArgs sh 0 0) (shCtx sh facts d)) (shSt sh)).vt = t) (h : t.holds (envOf (pvNums l) fn) fun v => yes (envOf (pvNums l) fn) v) :
    Calls P f (pvVals sh l).toArray w fun e w' => e = .returned (.bool true) ∧ Below w.heap.size w w' := by
  obtain ⟨ρ, h3, h4⟩ := places 0 hw
  have hv : ∀ j, j < (pvNums l).length → (envOf (pvNums l) fn).v (0 + j) = (pvNums l).getD j 0 := fun j hj => by simp [envOf]
  have hs : HS (envOf (pvNums l) fn) ρ w.heap.size (shStore sh 0 0) w := by
    refine ⟨?_, ?_, ?_, Nat.le_refl _, ?_, hX.rows⟩
    · intro b v hg
      obtain ⟨r, o, e, ho, hb⟩ := shStore_blk hw h4 hfn hv b v hg
      exact ⟨r, o, e, fun hvd => ⟨(hb hvd).1, (fun h => by rw [ho] at h; cases h), fun _ => (hb hvd).2⟩⟩
    · intro b p e
      have := h3 b p e
      exact shStore_dom (by omega) (by omega)
    · intro b b' r o o' e e' hr hd hd'
      cases hg : (shStore sh 0 0).get b with
      | none =>
        have := h3 b _ e
        exact absurd hg (shStore_dom (by omega) (by omega))
      | some v =>
        rw [hg] at hd
        obtain ⟨r', o', e1, ho, hb⟩ := shStore_blk hw h4 hfn hv b v hg
        rw [e] at e1
        cases e1
        have := (hb hd.void).2
        omega
    · intro b v hg
      obtain ⟨r, o, e, ho, hb⟩ := shStore_blk hw h4 hfn hv b v hg
      cases v with
      | vec => cases ho
      | _ => exact trivial
  subst ht
  exact calls_yes hmix hX rfl (show (shCtx sh facts d).ok _ from ⟨shRngs_ok hw hv, hf⟩) (shArgs_rep hw h4 hv) hs (PT.holds_vt h)
end Go.SX

namespace Go.SX
open Go Go.RowKit
set_option linter.unusedVariables false
set_option linter.unusedSimpArgs false

def rowVal : List PSh → List PV → Nat → Nat → List Int → Option Int
  | .row ks :: sh, .row d v :: l, b, k, a => if rowF b ≤ k ∧ k < rowF b + 100 then some (d.xs (a.getD 0 0).toNat (k - rowF b)) else rowVal sh l (b + 1) k a
  | .flat _ _ :: sh, _ :: l, b, k, a => rowVal sh l b k a
  | _, _, _, _, _ => none
def withRows (f0 : Nat → List Int → Int) (sh : List PSh) (l : List PV) : Nat → List Int → Int := fun k a => match rowVal sh l 0 k a with
  | some x => x
  | none => f0 k a

theorem rowVal_low : ∀ {sh : List PSh} {l : List PV} {b k : Nat} {a : List Int}, k < rowF b → rowVal sh l b k a = none
  | [], _, _, _, _, _ => rfl
  | .row _ :: _, [], _, _, _, _ => rfl
  | .row _ :: _, .flat _ :: _, _, _, _, _ => rfl
  | .flat _ _ :: _, [], _, _, _, _ => rfl
  | .flat _ _ :: sh, _ :: l, b, k, a, h => rowVal_low (sh := sh) (l := l) h
  | .row ks :: sh, .row d v :: l, b, k, a, h => by
      simp only [rowVal]
      rw [if_neg (by omega)]
      exact rowVal_low (by unfold rowF at *; omega)
theorem withRows_low {f0 : Nat → List Int → Int} {sh : List PSh} {l : List PV} {k : Nat} {a : List Int} (h : k < 5000) : withRows f0 sh l k a = f0 k a := by
  unfold withRows
  rw [rowVal_low (by unfold rowF; omega)]

def smallRows : List PSh → Bool
  | [] => true
  | .flat _ _ :: l => smallRows l
  | .row ks :: l => Nat.ble ks.length 100 && smallRows l
theorem rowVal_rows {f : Nat → List Int → Int} : ∀ {sh : List PSh} {l : List PV} {b : Nat}, smallRows sh = true → (∀ k a x, rowF b ≤ k → rowVal sh l b k a = some x → f k a = x) → FnRows f sh l b
  | [], _, _, _, _ => trivial
  | .row _ :: _, [], _, _, _ => trivial
  | .row _ :: _, .flat _ :: _, _, _, _ => trivial
  | .flat _ _ :: _, [], _, _, _ => trivial
  | .flat _ _ :: sh, _ :: l, b, hs, h => rowVal_rows (sh := sh) (l := l) (by simpa only [smallRows] using hs) h
  | .row ks :: sh, .row d v :: l, b, hs, h => by
      simp only [smallRows, Bool.and_eq_true] at hs
      have hk := Nat.le_of_ble_eq_true hs.1
      refine ⟨fun i j hi hj => ?_, rowVal_rows hs.2 fun k a x hk2 hx => ?_⟩
      · refine h (rowF b + j) _ _ (by omega) ?_
        simp only [rowVal]
        rw [if_pos (by omega)]
        simp
      · refine h k a x (by unfold rowF at *; omega) ?_
        simp only [rowVal]
        rw [if_neg (by unfold rowF at *; omega)]
        exact hx
theorem withRows_rows {f0 : Nat → List Int → Int} {sh : List PSh} {l : List PV} (hs : smallRows sh = true) : FnRows (withRows f0 sh l) sh l 0 :=
  rowVal_rows hs fun k a x _ hx => by unfold withRows; rw [hx]
/-- yes on every way, by looking alone -/
def VT.allYes : VT → Bool
  | .leaf (.bool (.lit true)) => true
  | .ite _ t e => t.allYes && e.allYes
  | _ => false
theorem VT.allYes_holds {env : Env} : ∀ {t : VT}, t.allYes = true → t.holds env fun v => yes env v
  | .leaf (.bool (.lit true)), _ => rfl
  | .ite c t e, h => by
      simp only [VT.allYes, Bool.and_eq_true] at h
      exact ⟨fun _ => VT.allYes_holds h.1, fun _ => VT.allYes_holds h.2⟩
end Go.SX
