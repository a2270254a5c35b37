/- What a run of the reckoner says of a call. -/
import Derived.Test.YtjgkcgkhcdeadaaSw12
namespace Go.SX
open Go Go.RowKit
set_option linter.unusedVariables false
set_option linter.unusedSimpArgs false
set_option linter.unusedSectionVars false

def Out.v : Out → SV
  | .val v _ => v
  | .tms _ _ => .any

/-- what is left to show of a tree: Q at each leaf, under the tests on the way -/
def PT.holds (env : Env) (Q : SV → T Blk → Prop) : PT → Prop
  | .leaf o s => Q o.v s.h
  | .ite c t e => (c.den env = true → t.holds env Q) ∧ (c.den env = false → e.holds env Q)
  | .need c t => c.den env = true ∧ t.holds env Q
  | .fail _ => False

theorem PT.holds_at {env : Env} {Q : SV → T Blk → Prop} : ∀ {t : PT}, t.holds env Q → ∃ o s, t.at env = some (o, s) ∧ Q o.v s.h
  | .leaf o s, h => ⟨o, s, rfl, h⟩
  | .ite c t e, h => by
      simp only [PT.at]
      cases hc : c.den env with
      | true => simpa using PT.holds_at (h.1 hc)
      | false => simpa using PT.holds_at (h.2 hc)
  | .need c t, h => by
      simp only [PT.at, h.1, if_true]
      exact PT.holds_at h.2
  | .fail _, h => h.elim

theorem PT.holds_mono {env : Env} {Q Q' : SV → T Blk → Prop} (hq : ∀ v h, Q v h → Q' v h) : ∀ {t : PT}, t.holds env Q → t.holds env Q'
  | .leaf o s, h => hq _ _ h
  | .ite c t e, h => ⟨fun hc => PT.holds_mono hq (h.1 hc), fun hc => PT.holds_mono hq (h.2 hc)⟩
  | .need c t, h => ⟨h.1, PT.holds_mono hq h.2⟩
  | .fail _, h => h

variable {P : Program} {X : Par} {env : Env} {fn : Nat → List Int → Int}

theorem calls_run (hmix : P.follows .mixedOrders = true) (hX : ParOK P fn X) (he : env.f = fn) {n f : Nat} {args : List SV} {vs : List Value} {cx : Ctx} {h0 : T Blk} {nx : Nat} {ρ : Pl} {w : World} {Q : SV → T Blk → Prop}
    (hc : cx.ok env) (ha : RepL env ρ args vs) (hs : HS env ρ w.heap.size h0 w) (h : (run (callT P X n f args cx) ⟨h0, nx, 0, [], [], true⟩).holds env Q) :
    Calls P f vs.toArray w fun e w' => ∃ v h' ρ' V, Q v h' ∧ e = .returned V ∧ Rep env ρ' v V ∧ ρ.le ρ' ∧ HS env ρ' w.heap.size h' w' ∧ Below w.heap.size w w' := by
  obtain ⟨o, s, hat, hq⟩ := PT.holds_at h
  have hrun : runE env (callT P X n f args cx) ⟨h0, nx, 0, [], [], true⟩ = some (o, s) := hat
  intro cs
  obtain ⟨v, cx', s', ρ', V, w', fr', g1, g2, g3, g4, g5, g6, g7, g8, g9, g10⟩ := ((exec_ok (B := w.heap.size) hmix hX n env he).2).call f args cx _ _ _ hrun hc ρ vs w ha hs cs
  simp only [runE, run, PT.at, Option.some.injEq, Prod.mk.injEq] at g1
  obtain ⟨rfl, rfl⟩ := g1
  exact ⟨.returned V, w', fr', ⟨v, s'.h, ρ', V, hq, rfl, g4, g3, g5, g6⟩, g8, g9, g10⟩

theorem hs_nil (env : Env) (hr : RowFn env.f) (w : World) : HS env (fun _ => none) w.heap.size .nil w :=
  ⟨(fun b v h => by cases h), (fun b p h => by cases h), (fun b b' r o o' h => by cases h), Nat.le_refl _, (fun b v h => by cases h), hr⟩

/-- the answer is yes -/
def yes (env : Env) (v : SV) : Prop := match v with | .bool b => b.den env = true | _ => False

theorem calls_yes (hmix : P.follows .mixedOrders = true) (hX : ParOK P fn X) (he : env.f = fn) {n f : Nat} {args : List SV} {vs : List Value} {cx : Ctx} {h0 : T Blk} {nx : Nat} {ρ : Pl} {w : World}
    (hc : cx.ok env) (ha : RepL env ρ args vs) (hs : HS env ρ w.heap.size h0 w) (h : (run (callT P X n f args cx) ⟨h0, nx, 0, [], [], true⟩).holds env fun v _ => yes env v) :
    Calls P f vs.toArray w fun e w' => e = .returned (.bool true) ∧ Below w.heap.size w w' := by
  refine (calls_run hmix hX he hc ha hs h).mono ?_
  rintro e w' ⟨v, h', ρ', V, hq, rfl, hr, _, _, hb⟩
  refine ⟨?_, hb⟩
  cases v <;> simp only [yes] at hq <;> try exact hq.elim
  rename_i b
  rw [show V = _ from hr, hq]

/-- integers and bools alone come in: no store to begin with -/
theorem calls_yes0 (hmix : P.follows .mixedOrders = true) (hX : ParOK P fn X) (he : env.f = fn) {n f : Nat} {args : List SV} {vs : List Value} {cx : Ctx} {w : World} {t : PT}
    (hc : cx.ok env) (ha : RepL env (fun _ => none) args vs) (ht : run (callT P X n f args cx) st0 = t) (h : t.holds env fun v _ => yes env v) :
    Calls P f vs.toArray w fun e w' => e = .returned (.bool true) ∧ Below w.heap.size w w' := by
  subst ht
  exact calls_yes hmix hX he hc ha (hs_nil env (by rw [he]; exact hX.rows) w) h

/-- a run that ends in yes on every way, by reckoning alone -/
def allYes : PT → Bool
  | .leaf o _ => match o.v with
    | .bool (.lit true) => true
    | _ => false
  | .ite _ t e => allYes t && allYes e
  | .need _ _ => false
  | .fail _ => false

theorem allYes_holds (env : Env) : ∀ {t : PT}, allYes t = true → t.holds env fun v _ => yes env v
  | .leaf o s, h => by
      simp only [allYes] at h
      simp only [PT.holds]
      split at h
      · rename_i e; rw [e]; rfl
      · cases h
  | .ite c t e, h => by
      simp only [allYes, Bool.and_eq_true] at h
      exact ⟨fun _ => allYes_holds env h.1, fun _ => allYes_holds env h.2⟩

end Go.SX
