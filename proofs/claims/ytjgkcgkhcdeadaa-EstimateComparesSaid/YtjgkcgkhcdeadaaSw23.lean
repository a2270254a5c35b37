/- Contracts of functions over numbers: each proved by a run of its own, used in a book. -/
import Derived.Test.YtjgkcgkhcdeadaaSw17
namespace Go.SX
open Go Go.RowKit
set_option linter.unusedVariables false
set_option linter.unusedSimpArgs false
set_option linter.unusedSectionVars false

/-- a contract: the function, its parameters, its value over the variables 0, 1 .. of their numbers; what must hold before; what holds then -/
structure FC where
  f : Nat
  sig : List (Bool × List (Option IntKind))
  v : SV
  pre : List BE := []
  facts : List BE := []
  rngs : Rngs := []

def kindNeeds : List (Option IntKind) → List E → List BE
  | some k :: ks, e :: es => .cmp .geq e (.lit k.min) :: .cmp .leq e (.lit k.max) :: kindNeeds ks es
  | none :: ks, _ :: es => kindNeeds ks es
  | _, _ => []
def FC.n (c : FC) : Nat := (kindsAll c.sig).length
def FC.summ (c : FC) (es : List E) : Summ :=
  ⟨kindNeeds (kindsAll c.sig) es ++ c.pre.map (BE.sub 0 (atL es)), c.v.sub 0 (atL es), c.facts.map (BE.sub 0 (atL es)), c.rngs.map fun p => (p.1.sub 0 (atL es), p.2), [], []⟩
def FC.entry (c : FC) (args : List SV) : Option Summ :=
  match matchL 0 (symAll c.sig 0) args [] with
  | some l => bif asgIn 0 c.n l then some (c.summ (asgL l 0 c.n)) else none
  | none => none
def FC.book (c : FC) (B : Book) : Book := fun f args cx => bif Nat.beq f c.f then (match c.entry args with
  | some s => some s
  | none => B f args cx) else B f args cx
def FC.par (c : FC) (X : Par) : Par := { X with book := c.book X.book }

/-- what is to be shown of a contract -/
structure FC.OK (P : Program) (fn : Nat → List Int → Int) (c : FC) : Prop where
  plain : c.v.plain = true
  ent : (entered P c.f).isSome = true
  calls : ∀ r, wfAll c.sig r → (∀ b, b ∈ c.pre → b.den (envOf r.flatten fn) = true) →
    (∀ b, b ∈ c.facts → b.den (envOf r.flatten fn) = true) ∧ (∀ e lo hi, (e, lo, hi) ∈ c.rngs → lo ≤ e.den (envOf r.flatten fn) ∧ e.den (envOf r.flatten fn) ≤ hi) ∧
    ∀ w, Calls P c.f (valAll c.sig r).toArray w fun e w' => ∃ V, e = .returned V ∧ (∀ ρ, Rep (envOf r.flatten fn) ρ c.v V) ∧ Below w.heap.size w w'

mutual
theorem Rep.det {env : Env} {ρ ρ' : Pl} : ∀ {s : SV} {v v' : Value}, s.plain = true → Rep env ρ s v → Rep env ρ' s v' → v = v'
  | .int k e, v, v', _, h, h' => by rw [show v = _ from h, show v' = _ from h']
  | .bool b, v, v', _, h, h' => by rw [show v = _ from h, show v' = _ from h']
  | .str s, v, v', _, h, h' => by rw [show v = _ from h, show v' = _ from h']
  | .nilIface, v, v', _, h, h' => by rw [show v = _ from h, show v' = _ from h']
  | .agg l, v, v', hp, h, h' => by
      obtain ⟨vs, e, rfl⟩ := h
      obtain ⟨vs', e', rfl⟩ := h'
      rw [RepL.det (by simpa [SV.plain] using hp) e e']
  | .tuple l, v, v', hp, h, h' => by
      obtain ⟨vs, e, rfl⟩ := h
      obtain ⟨vs', e', rfl⟩ := h'
      rw [RepL.det (by simpa [SV.plain] using hp) e e']
  | .ptr _, v, v', h, _, _ | .slice .., v, v', h, _, _ | .func .., v, v', h, _, _ | .nilFunc, v, v', h, _, _ | .iface .., v, v', h, _, _ | .nilMap, v, v', h, _, _ | .any, v, v', h, _, _ => by cases h
theorem RepL.det {env : Env} {ρ ρ' : Pl} : ∀ {l : List SV} {vs vs' : List Value}, SV.plainL l = true → RepL env ρ l vs → RepL env ρ' l vs' → vs = vs'
  | [], vs, vs', _, h, h' => by rw [show vs = [] from h, show vs' = [] from h']
  | s :: l, vs, vs', hp, h, h' => by
      simp only [SV.plainL, Bool.and_eq_true] at hp
      obtain ⟨v, us, e1, e2, rfl⟩ := h
      obtain ⟨v', us', e1', e2', rfl⟩ := h'
      rw [Rep.det hp.1 e1 e1', RepL.det hp.2 e2 e2']
end

theorem symL_plain : ∀ (ks : List (Option IntKind)) (i : Nat), SV.plainL (symL ks i) = true
  | [], i => rfl
  | k :: ks, i => by
      simp only [symL, SV.plainL, symL_plain ks (i + 1), Bool.and_true]
      cases k <;> rfl
theorem symAll_plain : ∀ (l : List (Bool × List (Option IntKind))) (i : Nat), SV.plainL (symAll l i) = true
  | [], i => rfl
  | (true, ks) :: l, i => by simp only [symAll, SV.plainL, SV.plain, symL_plain, symAll_plain l, Bool.and_self]
  | (false, ks) :: l, i => by
      simp only [symAll, SV.plainL, symAll_plain l, Bool.and_true]
      cases ks with
      | nil => rfl
      | cons k ks => cases k <;> rfl

/-- numbers parted by parameters -/
def splitAll : List (Bool × List (Option IntKind)) → List Int → List (List Int)
  | [], _ => []
  | (_, ks) :: l, xs => xs.take ks.length :: splitAll l (xs.drop ks.length)
theorem splitAll_flatten : ∀ (l : List (Bool × List (Option IntKind))) (xs : List Int), xs.length = (kindsAll l).length → (splitAll l xs).flatten = xs
  | [], xs, h => by simp [kindsAll] at h; simp [splitAll, h]
  | (b, ks) :: l, xs, h => by
      simp [kindsAll] at h
      simp only [splitAll, List.flatten_cons]
      rw [splitAll_flatten l (xs.drop ks.length) (by simp; omega), List.take_append_drop]
theorem wfL_take : ∀ {ks ks' : List (Option IntKind)} {xs : List Int}, wfL (ks ++ ks') xs → wfL ks (xs.take ks.length) ∧ wfL ks' (xs.drop ks.length)
  | [], ks', xs, h => ⟨rfl, h⟩
  | k :: ks, ks', xs, h => by
      obtain ⟨x, xs', rfl, hw, h⟩ := h
      obtain ⟨h1, h2⟩ := wfL_take h
      exact ⟨⟨x, xs'.take ks.length, rfl, hw, h1⟩, h2⟩
theorem splitAll_wf : ∀ {l : List (Bool × List (Option IntKind))} {xs : List Int}, (l.all fun p => p.1 || Nat.beq p.2.length 1) = true → wfL (kindsAll l) xs → wfAll l (splitAll l xs)
  | [], xs, hb, h => rfl
  | (b, ks) :: l, xs, hb, h => by
      simp only [List.all_cons, Bool.and_eq_true] at hb
      obtain ⟨h1, h2⟩ := wfL_take h
      refine ⟨_, _, rfl, h1, fun e => ?_, splitAll_wf hb.2 h2⟩
      subst e
      have := hb.1
      simp only [Bool.false_or, beq_dec, decide_eq_true_eq] at this
      exact this
theorem kindNeeds_ok {env : Env} : ∀ {ks : List (Option IntKind)} {es : List E}, es.length = ks.length → (∀ b, b ∈ kindNeeds ks es → b.den env = true) → wfL ks (denL env es)
  | [], es, hl, h => by cases es <;> first | rfl | cases hl
  | k :: ks, [], hl, h => by cases hl
  | some k :: ks, e :: es, hl, h => by
      have g1 := h (.cmp .geq e (.lit k.min)) (by simp [kindNeeds])
      have g2 := h (.cmp .leq e (.lit k.max)) (by simp [kindNeeds])
      refine ⟨e.den env, denL env es, rfl, fun k' e' => ?_, kindNeeds_ok (by simpa using hl) fun b hb => h b (by simp [kindNeeds, hb])⟩
      cases e'
      have g1 := of_decide_eq_true g1
      have g2 := of_decide_eq_true g2
      simp only [E.den] at g1 g2
      simp [Lit.wf]
      exact ⟨g1, g2⟩
  | none :: ks, e :: es, hl, h => ⟨e.den env, denL env es, rfl, (fun k' e' => by cases e'), kindNeeds_ok (by simpa using hl) fun b hb => h b (by simpa [kindNeeds] using hb)⟩

theorem FC.bookOK {P : Program} {fn : Nat → List Int → Int} {c : FC} (hc : c.OK P fn) (hs : (c.sig.all fun p => p.1 || Nat.beq p.2.length 1) = true) {B : Book} {env : Env} (he : env.f = fn) (hB : BookOK P env B) : BookOK P env (c.book B) := by
  intro f args cx sm hsm hcx hneeds ρ vs w ha hblks harrs
  simp only [FC.book, beq_dec] at hsm
  by_cases hf : f = c.f
  case neg => simp only [hf, decide_false, cond_false] at hsm; exact hB f args cx sm hsm hcx hneeds ρ vs w ha hblks harrs
  subst hf
  simp only [decide_true, cond_true] at hsm
  split at hsm
  case h_2 => exact hB _ args cx sm hsm hcx hneeds ρ vs w ha hblks harrs
  rename_i s hent
  cases hsm
  simp only [FC.entry] at hent
  split at hent
  case h_2 => cases hent
  rename_i l hm
  cases hin : asgIn 0 c.n l with
  | false => rw [hin] at hent; cases hent
  | true =>
    rw [hin, cond_true] at hent
    cases hent
    generalize hes : asgL l 0 c.n = es at hneeds ⊢
    have hlen : es.length = (kindsAll c.sig).length := by rw [← hes]; exact length_asgL c.n 0
    have hA := asg_upd (env := env) hin
    rw [hes] at hA
    have hag : Agree 0 env (env.upd 0 (denL env es)) := Env.agree env 0 _
    have hrep : RepL (env.upd 0 (denL env es)) ρ (symAll c.sig 0) vs := (matchL_ok hag hm).2 hA ρ vs ha
    have hwf : wfL (kindsAll c.sig) (denL env es) := kindNeeds_ok hlen fun b hb => hneeds b (by simp [FC.summ, hb])
    have hw := splitAll_wf hs hwf
    have hfl : (splitAll c.sig (denL env es)).flatten = denL env es := splitAll_flatten _ _ (by rw [length_denL]; exact hlen)
    have hev : envOf (splitAll c.sig (denL env es)).flatten fn = env.upd 0 (denL env es) := by
      rw [hfl]
      simp only [envOf, Env.upd, Env.mk.injEq]
      refine ⟨?_, he.symm⟩
      funext i
      simp
    have hvs : vs = valAll c.sig (splitAll c.sig (denL env es)) := RepL.det (symAll_plain _ _) hrep (symAll_rep (ρ := ρ) hw (fun j hj => by rw [← hev]; simp [envOf]))
    obtain ⟨q1, q2, q3⟩ := hc.calls _ hw (fun b hb => by
      rw [hev]
      have := hneeds (b.sub 0 (atL es)) (by simp [FC.summ]; exact .inr ⟨b, hb, rfl⟩)
      rwa [sub_at] at this)
    obtain ⟨⟨fn0, c0⟩, hent⟩ := Option.isSome_iff_exists.1 hc.ent
    obtain ⟨_, _, hcall⟩ := entered_ok hent vs.toArray w
    refine ⟨hcall, ?_, ?_, ?_⟩
    · intro b hb
      simp only [FC.summ, List.mem_map] at hb
      obtain ⟨b0, hb0, rfl⟩ := hb
      rw [sub_at, ← hev]
      exact q1 b0 hb0
    · intro e lo hi hb
      simp only [FC.summ, List.mem_map] at hb
      obtain ⟨⟨e0, r0⟩, hb0, e1⟩ := hb
      cases e1
      rw [subE_at, ← hev]
      exact q2 e0 _ _ hb0
    · rw [hvs]
      refine (q3 w).mono ?_
      rintro e w' ⟨V, rfl, hV, hb⟩
      refine ⟨V, rfl, ?_, hb⟩
      have h1 := hV ρ
      rw [hev] at h1
      exact Rep.sub (env := env) (env' := env.upd 0 (denL env es)) rfl (fun i hi => by omega) (fun i hi => by rw [atL_den]; simp [Env.upd]) hc.plain h1

theorem FC.parOK {P : Program} {fn : Nat → List Int → Int} {c : FC} (hc : c.OK P fn) (hs : (c.sig.all fun p => p.1 || Nat.beq p.2.length 1) = true) {X : Par} (hX : ParOK P fn X) : ParOK P fn (c.par X) :=
  ⟨fun env he => FC.bookOK hc hs he (hX.book env he), hX.loops, hX.rows, hX.gen⟩

/-! ### a tree without its stores -/

inductive VT where
  | leaf (v : SV)
  | ite (c : BE) (t e : VT)
  | need (c : BE) (t : VT)
  | fail

def PT.vt : PT → VT
  | .leaf o _ => .leaf o.v
  | .ite c t e => .ite c t.vt e.vt
  | .need c t => .need c t.vt
  | .fail _ => .fail

def VT.holds (env : Env) (Q : SV → Prop) : VT → Prop
  | .leaf v => Q v
  | .ite c t e => (c.den env = true → t.holds env Q) ∧ (c.den env = false → e.holds env Q)
  | .need c t => c.den env = true ∧ t.holds env Q
  | .fail => False

theorem PT.holds_vt {env : Env} {Q : SV → Prop} : ∀ {t : PT}, t.vt.holds env Q → t.holds env fun v _ => Q v
  | .leaf o s, h => h
  | .ite c t e, h => ⟨fun hc => PT.holds_vt (h.1 hc), fun hc => PT.holds_vt (h.2 hc)⟩
  | .need c t, h => ⟨h.1, PT.holds_vt h.2⟩
  | .fail _, h => h

/-- a contract by a run of the function's own -/
theorem FC.ok_run {P : Program} {fn : Nat → List Int → Int} {c : FC} {X : Par} {d n : Nat} {t : VT} (hmix : P.follows .mixedOrders = true) (hX : ParOK P fn X) (hp : c.v.plain = true) (hent : (entered P c.f).isSome = true)
    (ht : (run (callT P X n c.f (symAll c.sig 0) (ctxF c.sig (c.pre.map (·, true)) d)) st0).vt = t)
    (h : ∀ r, wfAll c.sig r → (∀ b, b ∈ c.pre → b.den (envOf r.flatten fn) = true) →
      (∀ b, b ∈ c.facts → b.den (envOf r.flatten fn) = true) ∧ (∀ e lo hi, (e, lo, hi) ∈ c.rngs → lo ≤ e.den (envOf r.flatten fn) ∧ e.den (envOf r.flatten fn) ≤ hi) ∧
      t.holds (envOf r.flatten fn) fun u => ∀ ρ ρ' V, Rep (envOf r.flatten fn) ρ u V → Rep (envOf r.flatten fn) ρ' c.v V) : c.OK P fn := by
  refine ⟨hp, hent, fun r hw hpre => ?_⟩
  obtain ⟨h1, h2, h3⟩ := h r hw hpre
  refine ⟨h1, h2, fun w => ?_⟩
  rw [← ht] at h3
  refine (calls_run hmix hX (env := envOf r.flatten fn) rfl (ctxF_ok hw ?_) (symAll_rep hw (fun j hj => by simp [envOf])) (hs_nil _ hX.rows w) (PT.holds_vt h3)).mono ?_
  · intro be v hm
    obtain ⟨b, hb, e⟩ := List.mem_map.1 hm
    cases e
    exact hpre _ hb
  · rintro e w' ⟨v, h', ρ', V, hq, rfl, hr, _, _, hb⟩
    exact ⟨V, rfl, fun ρ => hq ρ' ρ V hr, hb⟩

end Go.SX
