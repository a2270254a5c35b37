/- Values that stand for the same; halving loops; contracts by runs, in a handier form. -/
import Derived.Test.YtjgkcgkhcdeadaaSw24
namespace Go.SX
open Go Go.RowKit
set_option linter.unusedVariables false
set_option linter.unusedSimpArgs false
set_option linter.unusedSectionVars false

mutual
/-- the same numbers, whatever the expressions -/
def SV.eqv (env : Env) : SV → SV → Prop
  | .int k e, .int k' e' => k = k' ∧ e.den env = e'.den env
  | .bool b, .bool b' => b.den env = b'.den env
  | .agg l, .agg l' => SV.eqvL env l l'
  | .tuple l, .tuple l' => SV.eqvL env l l'
  | .str s, .str s' => s = s'
  | .nilIface, .nilIface => True
  | _, _ => False
def SV.eqvL (env : Env) : List SV → List SV → Prop
  | [], [] => True
  | x :: l, y :: l' => SV.eqv env x y ∧ SV.eqvL env l l'
  | _, _ => False
end

mutual
theorem Rep.eqv {env : Env} {ρ ρ' : Pl} : ∀ {u v : SV} {V : Value}, SV.eqv env u v → Rep env ρ u V → Rep env ρ' v V
  | .int k e, .int k' e', V, h, hr => by obtain ⟨rfl, h⟩ := h; rw [show V = _ from hr]; simp only [Rep, h]
  | .bool b, .bool b', V, h, hr => by rw [show V = _ from hr]; simp only [Rep, show b.den env = b'.den env from h]
  | .agg l, .agg l', V, h, hr => by obtain ⟨vs, h1, h2⟩ := hr; exact ⟨vs, RepL.eqv h h1, h2⟩
  | .tuple l, .tuple l', V, h, hr => by obtain ⟨vs, h1, h2⟩ := hr; exact ⟨vs, RepL.eqv h h1, h2⟩
  | .str s, .str s', V, h, hr => by rw [show V = _ from hr, show s = s' from h]; simp only [Rep]
  | .nilIface, .nilIface, V, h, hr => by rw [show V = _ from hr]; simp only [Rep]
  | .int .., .bool _, _, h, _ | .int .., .ptr _, _, h, _ | .int .., .slice .., _, h, _ | .int .., .func .., _, h, _ | .int .., .nilFunc, _, h, _ | .int .., .nilIface, _, h, _ | .int .., .iface .., _, h, _ | .int .., .str _, _, h, _ | .int .., .nilMap, _, h, _ | .int .., .agg _, _, h, _ | .int .., .tuple _, _, h, _ | .int .., .any, _, h, _ => by simp only [SV.eqv] at h
  | .bool _, .int .., _, h, _ | .bool _, .ptr _, _, h, _ | .bool _, .slice .., _, h, _ | .bool _, .func .., _, h, _ | .bool _, .nilFunc, _, h, _ | .bool _, .nilIface, _, h, _ | .bool _, .iface .., _, h, _ | .bool _, .str _, _, h, _ | .bool _, .nilMap, _, h, _ | .bool _, .agg _, _, h, _ | .bool _, .tuple _, _, h, _ | .bool _, .any, _, h, _ => by simp only [SV.eqv] at h
  | .agg _, .int .., _, h, _ | .agg _, .bool _, _, h, _ | .agg _, .ptr _, _, h, _ | .agg _, .slice .., _, h, _ | .agg _, .func .., _, h, _ | .agg _, .nilFunc, _, h, _ | .agg _, .nilIface, _, h, _ | .agg _, .iface .., _, h, _ | .agg _, .str _, _, h, _ | .agg _, .nilMap, _, h, _ | .agg _, .tuple _, _, h, _ | .agg _, .any, _, h, _ => by simp only [SV.eqv] at h
  | .tuple _, .int .., _, h, _ | .tuple _, .bool _, _, h, _ | .tuple _, .ptr _, _, h, _ | .tuple _, .slice .., _, h, _ | .tuple _, .func .., _, h, _ | .tuple _, .nilFunc, _, h, _ | .tuple _, .nilIface, _, h, _ | .tuple _, .iface .., _, h, _ | .tuple _, .str _, _, h, _ | .tuple _, .nilMap, _, h, _ | .tuple _, .agg _, _, h, _ | .tuple _, .any, _, h, _ => by simp only [SV.eqv] at h
  | .str _, .int .., _, h, _ | .str _, .bool _, _, h, _ | .str _, .ptr _, _, h, _ | .str _, .slice .., _, h, _ | .str _, .func .., _, h, _ | .str _, .nilFunc, _, h, _ | .str _, .nilIface, _, h, _ | .str _, .iface .., _, h, _ | .str _, .nilMap, _, h, _ | .str _, .agg _, _, h, _ | .str _, .tuple _, _, h, _ | .str _, .any, _, h, _ => by simp only [SV.eqv] at h
  | .nilIface, .int .., _, h, _ | .nilIface, .bool _, _, h, _ | .nilIface, .ptr _, _, h, _ | .nilIface, .slice .., _, h, _ | .nilIface, .func .., _, h, _ | .nilIface, .nilFunc, _, h, _ | .nilIface, .iface .., _, h, _ | .nilIface, .str _, _, h, _ | .nilIface, .nilMap, _, h, _ | .nilIface, .agg _, _, h, _ | .nilIface, .tuple _, _, h, _ | .nilIface, .any, _, h, _ => by simp only [SV.eqv] at h
  | .ptr _, _, _, h, _ | .slice .., _, _, h, _ | .func .., _, _, h, _ | .nilFunc, _, _, h, _ | .iface .., _, _, h, _ | .nilMap, _, _, h, _ | .any, _, _, h, _ => by simp only [SV.eqv] at h
theorem RepL.eqv {env : Env} {ρ ρ' : Pl} : ∀ {u v : List SV} {Vs : List Value}, SV.eqvL env u v → RepL env ρ u Vs → RepL env ρ' v Vs
  | [], [], Vs, _, hr => hr
  | x :: l, y :: l', Vs, h, hr => by
      obtain ⟨V, Vs', h1, h2, rfl⟩ := hr
      exact ⟨V, Vs', Rep.eqv h.1 h1, RepL.eqv h.2 h2, rfl⟩
  | [], _ :: _, _, h, _ => by simp only [SV.eqvL] at h
  | _ :: _, [], _, h, _ => by simp only [SV.eqvL] at h
end

/-- a contract by a run of the function's own; what is left is about numbers -/
theorem FC.ok_eqv {P : Program} {fn : Nat → List Int → Int} {c : FC} {X : Par} {d n : Nat} {t : VT} (hmix : P.follows .mixedOrders = true) (hX : ParOK P fn X) (hp : c.v.plain = true) (hent : (entered P c.f).isSome = true)
    (ht : (run (callT P X n c.f (symAll c.sig 0) (ctxF c.sig (c.pre.map (·, true)) d)) st0).vt = t)
    (h : ∀ r, wfAll c.sig r → (∀ b, b ∈ c.pre → b.den (envOf r.flatten fn) = true) →
      (∀ b, b ∈ c.facts → b.den (envOf r.flatten fn) = true) ∧ (∀ p, p ∈ c.rngs → p.2.1 ≤ p.1.den (envOf r.flatten fn) ∧ p.1.den (envOf r.flatten fn) ≤ p.2.2) ∧
      t.holds (envOf r.flatten fn) fun u => u.eqv (envOf r.flatten fn) c.v) : c.OK P fn :=
  FC.ok_run hmix hX hp hent ht fun r hw hpre => by
    obtain ⟨h1, h2, h3⟩ := h r hw hpre
    refine ⟨h1, fun e lo hi hm => h2 _ hm, ?_⟩
    generalize t = t at h3
    induction t with
    | leaf v => exact fun ρ ρ' V hV => Rep.eqv h3 hV
    | ite c t e it ie => exact ⟨fun hc => it (h3.1 hc), fun hc => ie (h3.2 hc)⟩
    | need c t it => exact ⟨h3.1, it h3.2⟩
    | fail => exact h3

/-- what is known at the beginning, ranges out of what must hold -/
def ctxA (l : List (Bool × List (Option IntKind))) (pre : List BE) (d : Nat) : Ctx := assumeAll (ctxF l [] d) pre
theorem ctxA_ok {l : List (Bool × List (Option IntKind))} {r : List (List Int)} {f : Nat → List Int → Int} {pre : List BE} {d : Nat} (h : wfAll l r) (hf : ∀ b, b ∈ pre → b.den (envOf r.flatten f) = true) :
    (ctxA l pre d).ok (envOf r.flatten f) := assumeAll_ok (ctxF_ok h (by simp)) hf

theorem FC.ok_num {P : Program} {fn : Nat → List Int → Int} {c : FC} {X : Par} {d n : Nat} {t : VT} (hmix : P.follows .mixedOrders = true) (hX : ParOK P fn X) (hp : c.v.plain = true) (hent : (entered P c.f).isSome = true)
    (ht : (run (callT P X n c.f (symAll c.sig 0) (ctxA c.sig c.pre d)) st0).vt = t)
    (h : ∀ r, wfAll c.sig r → (∀ b, b ∈ c.pre → b.den (envOf r.flatten fn) = true) →
      (∀ b, b ∈ c.facts → b.den (envOf r.flatten fn) = true) ∧ (∀ p, p ∈ c.rngs → p.2.1 ≤ p.1.den (envOf r.flatten fn) ∧ p.1.den (envOf r.flatten fn) ≤ p.2.2) ∧
      t.holds (envOf r.flatten fn) fun u => u.eqv (envOf r.flatten fn) c.v) : c.OK P fn := by
  refine ⟨hp, hent, fun r hw hpre => ?_⟩
  obtain ⟨h1, h2, h3⟩ := h r hw hpre
  refine ⟨h1, fun e lo hi hm => h2 _ hm, fun w => ?_⟩
  rw [← ht] at h3
  refine (calls_run hmix hX (env := envOf r.flatten fn) rfl (ctxA_ok hw hpre) (symAll_rep hw (fun j hj => by simp [envOf])) (hs_nil _ hX.rows w) (PT.holds_vt h3)).mono ?_
  rintro e w' ⟨v, h', ρ', V, hq, rfl, hr, _, _, hb⟩
  exact ⟨V, rfl, fun ρ => Rep.eqv hq hr, hb⟩

/-- a loop over two numbers that halves what lies between them -/
theorem runs_halve {env : Env} {L : LC} {c a b : Int} (hct : ∀ lo hi, a ≤ lo → lo ≤ hi → hi ≤ b → L.ct.ev (env.upd L.base [lo, hi]) = if lo < hi then (if c ≤ (lo + hi) / 2 then some (0, [lo, (lo + hi) / 2]) else some (0, [(lo + hi) / 2 + 1, hi])) else some (1, [lo]))
    (hh : ∀ lo hi, a ≤ lo → lo ≤ hi → hi ≤ b → HeadOK env L [lo, hi]) : ∀ (n : Nat) (lo hi : Int), (hi - lo).toNat ≤ n → a ≤ lo → lo ≤ hi → hi ≤ b → Runs env L [lo, hi] 0 [max lo (min hi c)]
  | 0, lo, hi, hn, h1, h2, h3 => by
      obtain rfl : lo = hi := by omega
      refine .exit (hh _ _ h1 h2 h3) ?_
      rw [hct _ _ h1 h2 h3, if_neg (by omega)]
      rw [show max lo (min lo c) = lo by omega]
  | n + 1, lo, hi, hn, h1, h2, h3 => by
      by_cases hlt : lo < hi
      · by_cases hc : c ≤ (lo + hi) / 2
        · refine .again (xs' := [lo, (lo + hi) / 2]) (hh _ _ h1 h2 h3) (by rw [hct _ _ h1 h2 h3, if_pos hlt, if_pos hc]) ?_
          have := runs_halve hct hh n lo ((lo + hi) / 2) (by omega) h1 (by omega) (by omega)
          rw [show max lo (min hi c) = max lo (min ((lo + hi) / 2) c) by omega]
          exact this
        · refine .again (xs' := [(lo + hi) / 2 + 1, hi]) (hh _ _ h1 h2 h3) (by rw [hct _ _ h1 h2 h3, if_pos hlt, if_neg hc]) ?_
          have := runs_halve hct hh n ((lo + hi) / 2 + 1) hi (by omega) (by omega) (by omega) h3
          rw [show max lo (min hi c) = max ((lo + hi) / 2 + 1) (min hi c) by omega]
          exact this
      · obtain rfl : lo = hi := by omega
        refine .exit (hh _ _ h1 h2 h3) ?_
        rw [hct _ _ h1 h2 h3, if_neg (by omega)]
        rw [show max lo (min lo c) = lo by omega]
end Go.SX
