/- Loops: what a pattern says; variables that stand for others. -/
import Derived.Test.YtjgkcgkhcdeadaaSw10
namespace Go.SX
open Go Go.RowKit
set_option linter.unusedVariables false
set_option linter.unusedSimpArgs false
set_option linter.unusedSectionVars false

/-- the same functions, the same variables below n -/
def Agree (n : Nat) (env env' : Env) : Prop := env'.f = env.f ∧ ∀ i, i < n → env'.v i = env.v i
def Env.upd (env : Env) (n : Nat) (xs : List Int) : Env := ⟨fun i => if i < n then env.v i else xs.getD (i - n) 0, env.f⟩
theorem Env.agree (env : Env) (n : Nat) (xs : List Int) : Agree n env (env.upd n xs) := ⟨rfl, fun i h => by simp [Env.upd, h]⟩
theorem Agree.symm {n : Nat} {env env' : Env} (h : Agree n env env') : Agree n env' env := ⟨h.1.symm, fun i hi => (h.2 i hi).symm⟩
theorem Env.upd_upd (env : Env) (n : Nat) (xs ys : List Int) : (env.upd n xs).upd n ys = env.upd n ys := by
  simp only [Env.upd, Env.mk.injEq, and_true]
  funext i
  by_cases h : i < n <;> simp [h]

theorem blt_lt {a b : Nat} (h : Nat.blt a b = true) : a < b := by rw [blt_dec] at h; simpa using h

section
variable {n : Nat} {env env' : Env} (ha : Agree n env env')
include ha

mutual
theorem E.low_den : ∀ {e : E}, e.low n = true → e.den env' = e.den env
  | .lit _, h => rfl
  | .var i, h => ha.2 i (blt_lt h)
  | .op o a b, h => by simp only [E.low, Bool.and_eq_true] at h; simp only [E.den, E.low_den h.1, E.low_den h.2]
  | .bin o k a b, h => by simp only [E.low, Bool.and_eq_true] at h; simp only [E.den, E.low_den h.1, E.low_den h.2]
  | .conv k a, h => by simp only [E.low] at h; simp only [E.den, E.low_den h]
  | .app f l, h => by simp only [E.low] at h; simp only [E.den, lowEL_den h, ha.1]
  | .ite c a b, h => by simp only [E.low, Bool.and_eq_true] at h; simp only [E.den, E.low_den h.1.1, E.low_den h.1.2, E.low_den h.2]
  | .cmp o a b, h => by simp only [E.low, Bool.and_eq_true] at h; simp only [E.den, E.low_den h.1, E.low_den h.2]
theorem lowEL_den : ∀ {l : List E}, lowEL n l = true → denL env' l = denL env l
  | [], h => rfl
  | e :: l, h => by simp only [lowEL, Bool.and_eq_true] at h; simp only [denL, E.low_den h.1, lowEL_den h.2]
end
theorem BE.low_den : ∀ {b : BE}, b.low n = true → b.den env' = b.den env
  | .lit _, h => rfl
  | .cmp o a b, h => by simp only [BE.low, Bool.and_eq_true] at h; simp only [BE.den, E.low_den ha h.1, E.low_den ha h.2]
  | .neg b, h => by simp only [BE.low] at h; simp only [BE.den, BE.low_den h]
  | .and a b, h => by simp only [BE.low, Bool.and_eq_true] at h; simp only [BE.den, BE.low_den h.1, BE.low_den h.2]
  | .eqb a b, h => by simp only [BE.low, Bool.and_eq_true] at h; simp only [BE.den, BE.low_den h.1, BE.low_den h.2]
  | .tst e, h => by simp only [BE.low] at h; simp only [BE.den, E.low_den ha h]
theorem SA.low_rep {ρ : Pl} {a : SA} {A : Addr} (h : a.low n = true) (hr : RepA env ρ a A) : RepA env' ρ a A := by
  cases a with
  | c b off => exact hr
  | g b off => exact hr
  | s b ix m off => simp only [SA.low] at h; simp only [RepA, E.low_den ha h] at hr ⊢; exact hr
  | h b ix m off => simp only [SA.low] at h; simp only [RepA, E.low_den ha h] at hr ⊢; exact hr
theorem RepO.low {ρ : Pl} {a : Option SA} {A : Option Addr} (h : optLow (SA.low n) a = true) (hr : RepO env ρ a A) : RepO env' ρ a A := by
  cases a with
  | none => exact hr
  | some a => obtain ⟨A', e, rfl⟩ := hr; exact ⟨A', SA.low_rep ha h e, rfl⟩
theorem RepC.low {ρ : Pl} {a : Option SA} {m c : Nat} {e : Option E} (h : optLow (E.low n) e = true) (hr : RepC env ρ a m c e) : RepC env' ρ a m c e := by
  cases e with
  | none => exact hr
  | some e => simp only [optLow] at h; simp only [RepC, E.low_den ha h] at hr ⊢; exact hr
mutual
theorem Rep.low {ρ : Pl} : ∀ {s : SV} {v : Value}, s.low n = true → Rep env ρ s v → Rep env' ρ s v
  | .int k e, v, h, hr => by simp only [SV.low] at h; simp only [Rep, E.low_den ha h] at hr ⊢; exact hr
  | .bool b, v, h, hr => by simp only [SV.low] at h; simp only [Rep, BE.low_den ha h] at hr ⊢; exact hr
  | .ptr a, v, h, hr => by simp only [SV.low] at h; obtain ⟨A, e, rfl⟩ := hr; exact ⟨A, RepO.low ha h e, rfl⟩
  | .slice a len cap, v, h, hr => by
      simp only [SV.low, Bool.and_eq_true] at h
      obtain ⟨A, c, e, e2, e3, rfl⟩ := hr
      refine ⟨A, c, RepO.low ha h.1.1 e, ?_, ?_, ?_⟩
      · rw [E.low_den ha h.1.2]; exact RepC.low ha h.2 e2
      · rw [E.low_den ha h.1.2]; exact e3
      · rw [E.low_den ha h.1.2]
  | .func f first cap, v, h, hr => by
      simp only [SV.low, Bool.and_eq_true] at h
      obtain ⟨g, fs, cs, e, e1, e2, rfl⟩ := hr
      exact ⟨g, fs, cs, e, RepL.low h.1 e1, RepL.low h.2 e2, rfl⟩
  | .nilFunc, v, h, hr => hr
  | .nilIface, v, h, hr => hr
  | .iface t x, v, h, hr => by obtain ⟨u, e, rfl⟩ := hr; exact ⟨u, Rep.low (by simpa [SV.low] using h) e, rfl⟩
  | .str s, v, h, hr => hr
  | .nilMap, v, h, hr => hr
  | .agg l, v, h, hr => by obtain ⟨vs, e, rfl⟩ := hr; exact ⟨vs, RepL.low (by simpa [SV.low] using h) e, rfl⟩
  | .tuple l, v, h, hr => by obtain ⟨vs, e, rfl⟩ := hr; exact ⟨vs, RepL.low (by simpa [SV.low] using h) e, rfl⟩
  | .any, v, h, hr => trivial
  | .vsl b len, v, h, hr => by
      simp only [SV.low] at h
      obtain ⟨r, o, e, h0, hr⟩ := hr
      refine ⟨r, o, e, ?_, ?_⟩
      · rw [E.low_den ha h]; exact h0
      · rw [E.low_den ha h]; exact hr
  | .vg b len, v, h, hr => by
      simp only [SV.low] at h
      obtain ⟨r, c, e, hr⟩ := hr
      refine ⟨r, c, e, ?_⟩
      rw [E.low_den ha h]; exact hr
theorem RepL.low {ρ : Pl} : ∀ {l : List SV} {vs : List Value}, SV.lowL n l = true → RepL env ρ l vs → RepL env' ρ l vs
  | [], vs, h, hr => hr
  | s :: l, vs, h, hr => by
      simp only [SV.lowL, Bool.and_eq_true] at h
      obtain ⟨v, vs', e1, e2, rfl⟩ := hr
      exact ⟨v, vs', Rep.low h.1 e1, RepL.low h.2 e2, rfl⟩
end
theorem BS.low {ρ : Pl} {ob : Option Obj} {o : Nat} {v : Blk} (h : v.low n = true) (hb : BS env ρ ob o v) : BS env' ρ ob o v := by
  cases v with
  | cells l t => obtain ⟨ho, cs, hr, e⟩ := hb; exact ⟨ho, cs, RepL.low ha h hr, e⟩
  | ro l => obtain ⟨c, t, fz, cs, e, hr, hc⟩ := hb; exact ⟨c, t, fz, cs, e, RepL.low ha h hr, hc⟩
  | arr sig F as m =>
    simp only [Blk.low, Bool.and_eq_true] at h
    obtain ⟨c, t, fz, e, h0, hc⟩ := hb
    refine ⟨c, t, fz, e, ?_, ?_⟩
    · rw [E.low_den ha h.2]; exact h0
    · rw [E.low_den ha h.2, lowEL_den ha h.1, ha.1]; exact hc
  | loop L => cases h
  | dfr tk => exact hb
  | grow l t m => obtain ⟨cs, cur, hr, e⟩ := hb; exact ⟨cs, cur, RepL.low ha h hr, e⟩
  | dead => exact hb
  | vec sig code m t =>
    simp only [Blk.low, Bool.and_eq_true] at h
    obtain ⟨cur, e, h0, h1, hc⟩ := hb
    refine ⟨cur, e, h0, ?_, ?_⟩
    · rw [E.low_den ha h.2]; exact h1
    · rw [E.low_den ha h.2, E.low_den ha h.1]; exact hc
theorem Blk.low_wf {v : Blk} (h : v.low n = true) (hb : v.wf env) : v.wf env' := by
  cases v with
  | vec sig code m t =>
    simp only [Blk.low, Bool.and_eq_true] at h
    simp only [Blk.wf, VecOK] at hb ⊢
    rw [E.low_den ha h.2, E.low_den ha h.1]; exact hb
  | _ => trivial
end

section
variable {n : Nat} {env env' : Env} (ha : Agree n env env')
include ha
theorem Blk.low_void {v : Blk} (c : Nat) (h : v.low n = true) : v.void env' c = v.void env c := by
  cases v with
  | arr sig F as m =>
    simp only [Blk.low, Bool.and_eq_true] at h
    simp only [Blk.void, E.low_den ha h.2]
  | vec sig code m t =>
    simp only [Blk.low, Bool.and_eq_true] at h
    simp only [Blk.void, E.low_den ha h.2]
  | _ => rfl
end

/-! ### places that were known before -/

section
variable {env1 env2 : Env} {ρ ρ' : Pl} (hle : ρ.le ρ')
include hle
theorem RepA.back {a : SA} {A0 A : Addr} (h0 : RepA env1 ρ a A0) (h : RepA env2 ρ' a A) : RepA env2 ρ a A := by
  cases a with
  | c b off => obtain ⟨r, o, e, _⟩ := h0; obtain ⟨r', o', e', rfl⟩ := h; rw [hle _ _ e] at e'; cases e'; exact ⟨r, o, e, rfl⟩
  | g b off => obtain ⟨r, o, e, _⟩ := h0; obtain ⟨r', o', e', rfl⟩ := h; rw [hle _ _ e] at e'; cases e'; exact ⟨r, o, e, rfl⟩
  | s b ix m off => obtain ⟨r, o, e, _⟩ := h0; obtain ⟨r', o', e', hn, rfl⟩ := h; rw [hle _ _ e] at e'; cases e'; exact ⟨r, o, e, hn, rfl⟩
  | h b ix m off => obtain ⟨r, o, e, _⟩ := h0; obtain ⟨r', o', e', hn, rfl⟩ := h; rw [hle _ _ e] at e'; cases e'; exact ⟨r, o, e, hn, rfl⟩
theorem RepO.back {a : Option SA} {A0 A : Option Addr} (h0 : RepO env1 ρ a A0) (h : RepO env2 ρ' a A) : RepO env2 ρ a A := by
  cases a with
  | none => exact h
  | some a => obtain ⟨_, e0, _⟩ := h0; obtain ⟨A', e, rfl⟩ := h; exact ⟨A', RepA.back hle e0 e, rfl⟩
theorem capOf_rep {a : Option SA} {A0 : Option Addr} (h0 : RepO env1 ρ a A0) {b : Nat} (hb : capOf a = some b) : ∃ p, ρ b = some p := by
  cases a with
  | none => cases hb
  | some a =>
    obtain ⟨_, e0, _⟩ := h0
    cases a with
    | c => cases hb
    | s => cases hb
    | g b' off =>
      obtain ⟨r, o, e, _⟩ := e0
      cases off with
      | zero => cases hb; exact ⟨_, e⟩
      | succ m => cases hb
    | h => cases hb
theorem RepF.back {a : SFn} {A0 A : Fn} (h0 : RepF ρ a A0) (h : RepF ρ' a A) : RepF ρ a A := by
  cases a with
  | func f => exact h
  | yield l => obtain ⟨r, o, e, _⟩ := h0; obtain ⟨r', o', e', rfl⟩ := h; rw [hle _ _ e] at e'; cases e'; exact ⟨r, o, e, rfl⟩
mutual
theorem Rep.back : ∀ {s : SV} {V0 V : Value}, Rep env1 ρ s V0 → Rep env2 ρ' s V → Rep env2 ρ s V
  | .int k e, V0, V, h0, h => h
  | .bool b, V0, V, h0, h => h
  | .ptr a, V0, V, h0, h => by obtain ⟨A0, e0, _⟩ := h0; obtain ⟨A, e, rfl⟩ := h; exact ⟨A, RepO.back hle e0 e, rfl⟩
  | .slice a len cap, V0, V, h0, h => by
      obtain ⟨A0, c0, e0, f0, _, _⟩ := h0
      obtain ⟨A, c, e, f, g, rfl⟩ := h
      refine ⟨A, c, RepO.back hle e0 e, ?_, g, rfl⟩
      cases cap with
      | some x => exact f
      | none =>
        refine ⟨f.1, fun b hb => ?_⟩
        obtain ⟨r, e1⟩ := f.2 b hb
        obtain ⟨p, hp⟩ := capOf_rep hle e0 hb
        rw [hle _ _ hp] at e1
        cases e1
        exact ⟨r, hp⟩
  | .func f first cap, V0, V, h0, h => by
      obtain ⟨_, _, _, e0, f0, g0, _⟩ := h0
      obtain ⟨g, fs, cs, e, e1, e2, rfl⟩ := h
      exact ⟨g, fs, cs, RepF.back hle e0 e, RepL.back f0 e1, RepL.back g0 e2, rfl⟩
  | .nilFunc, V0, V, h0, h => h
  | .nilIface, V0, V, h0, h => h
  | .iface t x, V0, V, h0, h => by obtain ⟨_, e0, _⟩ := h0; obtain ⟨u, e, rfl⟩ := h; exact ⟨u, Rep.back e0 e, rfl⟩
  | .str s, V0, V, h0, h => h
  | .nilMap, V0, V, h0, h => h
  | .agg l, V0, V, h0, h => by obtain ⟨_, e0, _⟩ := h0; obtain ⟨vs, e, rfl⟩ := h; exact ⟨vs, RepL.back e0 e, rfl⟩
  | .tuple l, V0, V, h0, h => by obtain ⟨_, e0, _⟩ := h0; obtain ⟨vs, e, rfl⟩ := h; exact ⟨vs, RepL.back e0 e, rfl⟩
  | .any, V0, V, h0, h => trivial
  | .vsl b len, V0, V, h0, h => by
      obtain ⟨r0, o0, e0, _⟩ := h0
      obtain ⟨r, o, e, h1⟩ := h
      rw [hle _ _ e0] at e
      cases e
      exact ⟨r0, o0, e0, h1⟩
  | .vg b len, V0, V, h0, h => by
      obtain ⟨r0, o0, e0, _⟩ := h0
      obtain ⟨r, o, e, h1⟩ := h
      rw [hle _ _ e0] at e
      cases e
      exact ⟨r0, o0, e0, h1⟩
theorem RepL.back : ∀ {l : List SV} {V0 V : List Value}, RepL env1 ρ l V0 → RepL env2 ρ' l V → RepL env2 ρ l V
  | [], V0, V, h0, h => h
  | s :: l, V0, V, h0, h => by
      obtain ⟨_, _, e0, f0, _⟩ := h0
      obtain ⟨v, vs', e1, e2, rfl⟩ := h
      exact ⟨v, vs', Rep.back e0 e1, RepL.back f0 e2, rfl⟩
end
theorem BS.back {ob0 ob : Option Obj} {o : Nat} {v : Blk} {n : Nat} (hl : v.low n = true) (h0 : BS env1 ρ ob0 o v) (h : BS env2 ρ' ob o v) : BS env2 ρ ob o v := by
  cases v with
  | cells l t => obtain ⟨_, _, e0, _⟩ := h0; obtain ⟨ho, cs, hr, e⟩ := h; exact ⟨ho, cs, RepL.back hle e0 hr, e⟩
  | ro l => obtain ⟨_, _, _, _, _, e0, _⟩ := h0; obtain ⟨c, t, fz, cs, e, hr, hc⟩ := h; exact ⟨c, t, fz, cs, e, RepL.back hle e0 hr, hc⟩
  | arr sig F as m => exact h
  | loop L => cases hl
  | dfr tk => exact h
  | grow l t m => obtain ⟨_, _, e0, _⟩ := h0; obtain ⟨cs, cur, hr, e⟩ := h; exact ⟨cs, cur, RepL.back hle e0 hr, e⟩
  | dead => exact h
  | vec sig code n t => exact h
theorem BS.back1 {ob0 ob : Option Obj} {o : Nat} {v : Blk} (h0 : BS env1 ρ ob0 o v) (h : BS env2 ρ' ob o v) : BS env2 ρ ob o v := by
  cases v with
  | cells l t => obtain ⟨_, _, e0, _⟩ := h0; obtain ⟨ho, cs, hr, e⟩ := h; exact ⟨ho, cs, RepL.back hle e0 hr, e⟩
  | ro l => obtain ⟨_, _, _, _, _, e0, _⟩ := h0; obtain ⟨c, t, fz, cs, e, hr, hc⟩ := h; exact ⟨c, t, fz, cs, e, RepL.back hle e0 hr, hc⟩
  | arr sig F as m => exact h
  | loop L =>
    obtain ⟨lp0, _, a0⟩ := h0
    obtain ⟨lp, e, a1, a2, a3, a4, a5, a6, a7, a8, o', a9⟩ := h
    obtain ⟨b1, b2, b3, b4, b5, b6, b7, b8, o0, b9⟩ := a0
    refine ⟨lp, e, a1, a2, a3, a4, ?_, a6, a7, a8, o0, ?_⟩
    · intro t s hts
      obtain ⟨v, hv, hr⟩ := a5 t s hts
      obtain ⟨v0, _, hr0⟩ := b5 t s hts
      exact ⟨v, hv, Rep.back hle hr0 hr⟩
    · have e9 := (hle _ _ b9).symm.trans a9
      simp only [Option.some.injEq, Prod.mk.injEq] at e9
      rw [← e9.1]
      exact b9
  | dfr tk => exact h
  | grow l t m => obtain ⟨_, _, e0, _⟩ := h0; obtain ⟨cs, cur, hr, e⟩ := h; exact ⟨cs, cur, RepL.back hle e0 hr, e⟩
  | dead => exact h
  | vec sig code n t => exact h
end

/-! ### values with old names alone -/

section
variable {env : Env} {ρ ρ' : Pl} {n : Nat} (hd : ∀ b, b < n → ∀ p, ρ' b = some p → ρ b = some p)
include hd
theorem RepA.down {a : SA} {A : Addr} (ho : a.older n = true) (h : RepA env ρ' a A) : RepA env ρ a A := by
  cases a with
  | c b off => obtain ⟨r, o, e, rfl⟩ := h; exact ⟨r, o, hd b (by simp only [SA.older, blt_dec, decide_eq_true_eq] at ho; exact ho) _ e, rfl⟩
  | g b off => obtain ⟨r, o, e, rfl⟩ := h; exact ⟨r, o, hd b (by simp only [SA.older, blt_dec, decide_eq_true_eq] at ho; exact ho) _ e, rfl⟩
  | s b ix m off => obtain ⟨r, o, e, hn, rfl⟩ := h; exact ⟨r, o, hd b (by simp only [SA.older, blt_dec, decide_eq_true_eq] at ho; exact ho) _ e, hn, rfl⟩
  | h b ix m off => obtain ⟨r, o, e, hn, rfl⟩ := h; exact ⟨r, o, hd b (by simp only [SA.older, blt_dec, decide_eq_true_eq] at ho; exact ho) _ e, hn, rfl⟩
theorem RepO.down {a : Option SA} {A : Option Addr} (ho : optOlder n a = true) (h : RepO env ρ' a A) : RepO env ρ a A := by
  cases a with
  | none => exact h
  | some a => obtain ⟨A', e, rfl⟩ := h; exact ⟨A', RepA.down hd ho e, rfl⟩
theorem RepF.down {a : SFn} {A : Fn} (ho : a.older n = true) (h : RepF ρ' a A) : RepF ρ a A := by
  cases a with
  | func f => exact h
  | yield l => obtain ⟨r, o, e, rfl⟩ := h; exact ⟨r, o, hd l (by simp only [SFn.older, blt_dec, decide_eq_true_eq] at ho; exact ho) _ e, rfl⟩
mutual
theorem Rep.down : ∀ {s : SV} {V : Value}, s.older n = true → Rep env ρ' s V → Rep env ρ s V
  | .int k e, V, ho, h => h
  | .bool b, V, ho, h => h
  | .ptr a, V, ho, h => by obtain ⟨A, e, rfl⟩ := h; exact ⟨A, RepO.down hd ho e, rfl⟩
  | .slice a len cap, V, ho, h => by
      obtain ⟨A, c, e, f, g, rfl⟩ := h
      refine ⟨A, c, RepO.down hd ho e, ?_, g, rfl⟩
      cases cap with
      | some x => exact f
      | none =>
        refine ⟨f.1, fun b hb => ?_⟩
        obtain ⟨r, e1⟩ := f.2 b hb
        refine ⟨r, hd b ?_ _ e1⟩
        cases a with
        | none => cases hb
        | some a =>
          cases a with
          | c => cases hb
          | s => cases hb
          | g b' off =>
            cases off with
            | zero =>
              cases hb
              simp only [SV.older, optOlder, SA.older, blt_dec, decide_eq_true_eq] at ho
              exact ho
            | succ m => cases hb
          | h => cases hb
  | .func f first cap, V, ho, h => by
      simp only [SV.older, Bool.and_eq_true] at ho
      obtain ⟨g, fs, cs, e, e1, e2, rfl⟩ := h
      exact ⟨g, fs, cs, RepF.down hd ho.1.1 e, RepL.down ho.1.2 e1, RepL.down ho.2 e2, rfl⟩
  | .nilFunc, V, ho, h => h
  | .nilIface, V, ho, h => h
  | .iface t x, V, ho, h => by obtain ⟨u, e, rfl⟩ := h; exact ⟨u, Rep.down (by simpa only [SV.older] using ho) e, rfl⟩
  | .str s, V, ho, h => h
  | .nilMap, V, ho, h => h
  | .agg l, V, ho, h => by obtain ⟨vs, e, rfl⟩ := h; exact ⟨vs, RepL.down (by simpa only [SV.older] using ho) e, rfl⟩
  | .tuple l, V, ho, h => by obtain ⟨vs, e, rfl⟩ := h; exact ⟨vs, RepL.down (by simpa only [SV.older] using ho) e, rfl⟩
  | .any, V, ho, h => trivial
  | .vsl b len, V, ho, h => by
      obtain ⟨r, o, e, h1⟩ := h
      simp only [SV.older, blt_dec, decide_eq_true_eq] at ho
      exact ⟨r, o, hd b ho _ e, h1⟩
  | .vg b len, V, ho, h => by
      obtain ⟨r, o, e, h1⟩ := h
      simp only [SV.older, blt_dec, decide_eq_true_eq] at ho
      exact ⟨r, o, hd b ho _ e, h1⟩
theorem RepL.down : ∀ {l : List SV} {Vs : List Value}, SV.olderL n l = true → RepL env ρ' l Vs → RepL env ρ l Vs
  | [], V, ho, h => h
  | s :: l, V, ho, h => by
      simp only [SV.olderL, Bool.and_eq_true] at ho
      obtain ⟨v, vs', e1, e2, rfl⟩ := h
      exact ⟨v, vs', Rep.down ho.1 e1, RepL.down ho.2 e2, rfl⟩
end
end

/-- the store behind a join that has turned nothing old -/
theorem HS.joined {env : Env} {ρ ρ' : Pl} {B : Nat} {h h' : T Blk} {w w' : World} (hle : ρ.le ρ') (h0 : HS env ρ B h w) (h1 : HS env ρ' B h' w') (hk : ∀ b v, h.get b = some v → h'.get b = some v) : HS env ρ B h w' := by
  refine ⟨fun b v hg => ?_, h0.dom, h0.inj, h1.size, h0.wf, h0.rows⟩
  obtain ⟨r, o, e, hb⟩ := h0.blk b v hg
  obtain ⟨r', o', e', hb'⟩ := h1.blk b v (hk b v hg)
  rw [hle _ _ e] at e'
  cases e'
  exact ⟨r, o, e, fun hv => ⟨BS.back1 hle (hb hv).1 (hb' hv).1, (hb hv).2⟩⟩
theorem HS.downs {env : Env} {ρ ρ' : Pl} {B : Nat} {h h' : T Blk} {w w' : World} {n : Nat} (hle : ρ.le ρ') (h0 : HS env ρ B h w) (h1 : HS env ρ' B h' w') (hk : ∀ b, b < n → h'.get b = h.get b) : ∀ b, b < n → ∀ p, ρ' b = some p → ρ b = some p := by
  intro b hb p hp
  have h2 := h1.dom b p hp
  rw [hk b hb] at h2
  cases hg : h.get b with
  | none => exact absurd hg h2
  | some v =>
    obtain ⟨r, o, e, _⟩ := h0.blk b v hg
    have := hle _ _ e
    rw [hp] at this
    cases this
    exact e

mutual
theorem Rep.plain {env : Env} {ρ ρ' : Pl} : ∀ {s : SV} {v : Value}, s.plain = true → Rep env ρ s v → Rep env ρ' s v
  | .int k e, v, h, hr => hr
  | .bool b, v, h, hr => hr
  | .str s, v, h, hr => hr
  | .nilIface, v, h, hr => hr
  | .agg l, v, h, hr => by obtain ⟨vs, e, rfl⟩ := hr; exact ⟨vs, RepL.plain (by simpa [SV.plain] using h) e, rfl⟩
  | .tuple l, v, h, hr => by obtain ⟨vs, e, rfl⟩ := hr; exact ⟨vs, RepL.plain (by simpa [SV.plain] using h) e, rfl⟩
  | .ptr _, v, h, hr | .slice .., v, h, hr | .func .., v, h, hr | .nilFunc, v, h, hr | .iface .., v, h, hr | .nilMap, v, h, hr => by cases h
theorem RepL.plain {env : Env} {ρ ρ' : Pl} : ∀ {l : List SV} {vs : List Value}, SV.plainL l = true → RepL env ρ l vs → RepL env ρ' l vs
  | [], vs, h, hr => hr
  | s :: l, vs, h, hr => by
      simp only [SV.plainL, Bool.and_eq_true] at h
      obtain ⟨v, vs', e1, e2, rfl⟩ := hr
      exact ⟨v, vs', Rep.plain h.1 e1, RepL.plain h.2 e2, rfl⟩
end

/-! ### patterns -/

def AsgOK (env env' : Env) (l : Asg) : Prop := ∀ i e, getA i l = some e → env'.v i = e.den env
def Asg.le (l l' : Asg) : Prop := ∀ i e, getA i l = some e → getA i l' = some e
theorem Asg.le_refl (l : Asg) : Asg.le l l := fun _ _ h => h
theorem Asg.le_trans {a b c : Asg} (h : Asg.le a b) (h' : Asg.le b c) : Asg.le a c := fun i e x => h' i e (h i e x)
theorem AsgOK.mono {env env' : Env} {l l' : Asg} (h : Asg.le l l') (ha : AsgOK env env' l') : AsgOK env env' l := fun i e x => ha i e (h i e x)

theorem putA_ok {i : Nat} {e : E} {l l' : Asg} (h : putA i e l = some l') : Asg.le l l' ∧ getA i l' = some e := by
  unfold putA at h
  split at h
  · rename_i e' he
    cases hs : e.same e' with
    | false => rw [hs, cond_false] at h; cases h
    | true =>
      rw [hs, cond_true] at h
      cases h
      rw [E.same_eq hs]
      exact ⟨Asg.le_refl _, he⟩
  · rename_i he
    cases h
    refine ⟨?_, by simp [getA]⟩
    intro j x hj
    simp only [getA, beq_dec]
    by_cases hji : j = i
    · subst hji; rw [he] at hj; cases hj
    · simp [hji, hj]

section
variable {n : Nat} {env env' : Env} (ha : Agree n env env')
include ha

theorem matchE_ok {t e : E} {l l' : Asg} (h : matchE n t e l = some l') : Asg.le l l' ∧ (AsgOK env env' l' → t.den env' = e.den env) := by
  have gen : (bif t.low n && t.same e then some l else none) = some l' → Asg.le l l' ∧ (AsgOK env env' l' → t.den env' = e.den env) := by
    intro h
    cases hb : (t.low n && t.same e) with
    | false => rw [hb, cond_false] at h; cases h
    | true =>
      rw [hb, cond_true] at h
      cases h
      simp only [Bool.and_eq_true] at hb
      refine ⟨Asg.le_refl _, fun _ => ?_⟩
      rw [← E.same_eq hb.2]
      exact E.low_den ha hb.1
  cases t with
  | var i =>
    simp only [matchE] at h
    cases hi : Nat.blt i n with
    | true =>
      rw [hi, cond_true] at h
      cases hs : e.same (.var i) with
      | false => rw [hs, cond_false] at h; cases h
      | true =>
        rw [hs, cond_true] at h
        cases h
        refine ⟨Asg.le_refl _, fun _ => ?_⟩
        rw [E.same_eq hs]
        exact ha.2 i (blt_lt hi)
    | false =>
      rw [hi, cond_false] at h
      obtain ⟨h1, h2⟩ := putA_ok h
      exact ⟨h1, fun hA => hA i e h2⟩
  | lit | op | bin | conv | app | ite | cmp => exact gen h

mutual
theorem matchV_ok : ∀ {t v : SV} {l l' : Asg}, matchV n t v l = some l' → Asg.le l l' ∧ (AsgOK env env' l' → ∀ ρ V, Rep env ρ v V → Rep env' ρ t V)
  | .int k t, v, l, l', h => by
      cases v <;> simp only [matchV] at h <;> try (cases h; done)
      rename_i k' e
      cases hk : decide (k = k') with
      | false => rw [hk, cond_false] at h; cases h
      | true =>
        rw [hk, cond_true] at h
        obtain ⟨h1, h2⟩ := matchE_ok ha h
        refine ⟨h1, fun hA ρ V hr => ?_⟩
        have : k = k' := by simpa using hk
        simp only [Rep] at hr ⊢
        rw [hr, h2 hA, this]
  | .bool (.tst t), v, l, l', h => by
      cases v <;> simp only [matchV] at h <;> try (cases h; done)
      rename_i b
      obtain ⟨h1, h2⟩ := matchE_ok ha h
      refine ⟨h1, fun hA ρ V hr => ?_⟩
      simp only [Rep, BE.den] at hr ⊢
      rw [hr, h2 hA, toE_ok]
      cases b.den env <;> rfl
  | .bool (.lit x), v, l, l', h => by
      cases v with
      | bool b =>
        cases b <;> simp only [matchV] at h <;> try (cases h; done)
        rename_i y
        cases hxy : (x == y) with
        | false => rw [hxy, cond_false] at h; cases h
        | true =>
          rw [hxy, cond_true] at h
          cases h
          refine ⟨Asg.le_refl _, fun hA ρ V hr => ?_⟩
          have : x = y := by simpa using hxy
          simp only [Rep, BE.den] at hr ⊢
          rw [hr, this]
      | _ => simp [matchV] at h
  | .bool (.cmp ..), v, l, l', h => by simp [matchV] at h
  | .bool (.neg ..), v, l, l', h => by simp [matchV] at h
  | .bool (.and ..), v, l, l', h => by simp [matchV] at h
  | .bool (.eqb ..), v, l, l', h => by simp [matchV] at h
  | .agg ts, v, l, l', h => by
      cases v <;> simp only [matchV] at h <;> try (cases h; done)
      obtain ⟨h1, h2⟩ := matchL_ok h
      refine ⟨h1, fun hA ρ V hr => ?_⟩
      obtain ⟨vs, e, rfl⟩ := hr
      exact ⟨vs, h2 hA ρ vs e, rfl⟩
  | .tuple ts, v, l, l', h => by
      cases v <;> simp only [matchV] at h <;> try (cases h; done)
      obtain ⟨h1, h2⟩ := matchL_ok h
      refine ⟨h1, fun hA ρ V hr => ?_⟩
      obtain ⟨vs, e, rfl⟩ := hr
      exact ⟨vs, h2 hA ρ vs e, rfl⟩
  | .nilIface, v, l, l', h => by
      cases v <;> simp only [matchV] at h <;> try (cases h; done)
      cases h
      exact ⟨Asg.le_refl _, fun hA ρ V hr => hr⟩
  | .str a, v, l, l', h => by
      cases v <;> simp only [matchV] at h <;> try (cases h; done)
      rename_i b
      obtain ⟨a⟩ := a
      obtain ⟨b⟩ := b
      cases hab : decide (a = b) with
      | false => simp only [hab, cond_false] at h; cases h
      | true =>
        simp only [hab, cond_true] at h
        cases h
        have : a = b := by simpa using hab
        subst this
        exact ⟨Asg.le_refl _, fun hA ρ V hr => hr⟩
  | .ptr _, v, l, l', h => by simp [matchV] at h
  | .slice .., v, l, l', h => by simp [matchV] at h
  | .func .., v, l, l', h => by simp [matchV] at h
  | .nilFunc, v, l, l', h => by simp [matchV] at h
  | .iface .., v, l, l', h => by simp [matchV] at h
  | .nilMap, v, l, l', h => by simp [matchV] at h
theorem matchL_ok : ∀ {ts vs : List SV} {l l' : Asg}, matchL n ts vs l = some l' → Asg.le l l' ∧ (AsgOK env env' l' → ∀ ρ Vs, RepL env ρ vs Vs → RepL env' ρ ts Vs)
  | [], vs, l, l', h => by
      cases vs <;> simp only [matchL] at h <;> try (cases h; done)
      cases h
      exact ⟨Asg.le_refl _, fun hA ρ V hr => hr⟩
  | t :: ts, vs, l, l', h => by
      cases vs <;> simp only [matchL] at h <;> try (cases h; done)
      split at h
      · rename_i l1 h1
        obtain ⟨a1, a2⟩ := matchV_ok h1
        obtain ⟨b1, b2⟩ := matchL_ok h
        refine ⟨Asg.le_trans a1 b1, fun hA ρ V hr => ?_⟩
        obtain ⟨u, us, e1, e2, rfl⟩ := hr
        exact ⟨u, us, a2 (hA.mono b1) ρ u e1, b2 hA ρ us e2, rfl⟩
      · cases h
end

theorem matchT_ok {tm : T SV} : ∀ {ps : List (Nat × SV)} {l l' : Asg}, matchT n tm ps l = some l' →
    Asg.le l l' ∧ (AsgOK env env' l' → ∀ ρ tmps, TS env ρ tm tmps → ∀ t p, (t, p) ∈ ps → ∃ V, tmps[t]? = some V ∧ Rep env' ρ p V)
  | [], l, l', h => by cases h; exact ⟨Asg.le_refl _, fun _ ρ tmps ht t p hm => by simp at hm⟩
  | (t, p) :: r, l, l', h => by
      simp only [matchT] at h
      split at h
      · rename_i v hv
        split at h
        · rename_i l1 h1
          obtain ⟨a1, a2⟩ := matchV_ok ha h1
          obtain ⟨b1, b2⟩ := matchT_ok h
          refine ⟨Asg.le_trans a1 b1, fun hA ρ tmps ht t' p' hm => ?_⟩
          rcases List.mem_cons.1 hm with hm | hm
          · cases hm
            obtain ⟨V, hV, hr⟩ := ht _ _ hv
            exact ⟨V, hV, a2 (hA.mono b1) ρ V hr⟩
          · exact b2 hA ρ tmps ht t' p' hm
        · cases h
      · cases h

theorem matchB_ok {h0 hp : T Blk} : ∀ {ps : List (Nat × List SV)} {l l' : Asg}, matchB n h0 hp ps l = some l' →
    Asg.le l l' ∧ (AsgOK env env' l' → ∀ b p, (b, p) ∈ ps → ∃ us vs ty, h0.get b = some (.cells us ty) ∧ hp.get b = some (.cells vs ty) ∧ ∀ ρ Vs, RepL env ρ vs Vs → RepL env' ρ p Vs)
  | [], l, l', h => by cases h; exact ⟨Asg.le_refl _, fun _ b p hm => by simp at hm⟩
  | (b, p) :: r, l, l', h => by
      simp only [matchB] at h
      split at h
      · rename_i us ty0 vs ty hu hv
        simp only [beq_dec] at h
        by_cases hty : ty0 = ty
        case neg => simp only [hty, decide_false, cond_false] at h; cases h
        subst hty
        simp only [decide_true, cond_true] at h
        split at h
        · rename_i l1 h1
          obtain ⟨a1, a2⟩ := matchL_ok ha h1
          obtain ⟨b1, b2⟩ := matchB_ok h
          refine ⟨Asg.le_trans a1 b1, fun hA b' p' hm => ?_⟩
          rcases List.mem_cons.1 hm with hm | hm
          · cases hm
            exact ⟨us, vs, ty0, hu, hv, a2 (hA.mono b1)⟩
          · exact b2 hA b' p' hm
        · cases h
      · cases h
end

theorem getA_mem {i : Nat} {e : E} : ∀ {l : Asg}, getA i l = some e → (i, e) ∈ l
  | [], h => by cases h
  | (j, x) :: l, h => by
      simp only [getA, beq_dec] at h
      by_cases hij : i = j
      · subst hij; simp at h; subst h; simp
      · simp [hij] at h; simp [getA_mem h]

theorem denL_asgL {env : Env} {l : Asg} : ∀ (m i j : Nat), j < m → (denL env (asgL l i m)).getD j 0 = ((getA (i + j) l).getD (.lit 0)).den env
  | 0, i, j, h => by omega
  | m + 1, i, 0, h => by simp [asgL, denL]
  | m + 1, i, j + 1, h => by
      simp only [asgL, denL, List.getD_cons_succ]
      rw [denL_asgL m (i + 1) j (by omega), show i + 1 + j = i + (j + 1) by omega]
theorem length_asgL {l : Asg} : ∀ (m i : Nat), (asgL l i m).length = m
  | 0, i => rfl
  | m + 1, i => by simp [asgL, length_asgL m]
theorem length_denL {env : Env} : ∀ (l : List E), (denL env l).length = l.length
  | [] => rfl
  | e :: l => by simp [denL, length_denL l]

theorem asg_upd {env : Env} {n m : Nat} {l : Asg} (h : asgIn n m l = true) : AsgOK env (env.upd n (denL env (asgL l n m))) l := by
  intro i e he
  simp only [asgIn, List.all_eq_true] at h
  have := h _ (getA_mem he)
  simp only [Bool.and_eq_true, Nat.ble_eq] at this
  have h2 := blt_lt this.2
  simp only [Env.upd]
  rw [if_neg (by omega), denL_asgL m n (i - n) (by omega), show n + (i - n) = i by omega, he]
  rfl

/-! ### variables that stand for others -/

section
variable {n : Nat} {σ : Nat → E} {env env' : Env} (hf : env'.f = env.f) (hlo : ∀ i, i < n → env'.v i = env.v i)
include hf hlo
mutual
theorem E.sub_den (hhi : ∀ i, n ≤ i → env'.v i = (σ (i - n)).den env) : ∀ e : E, (e.sub n σ).den env = e.den env'
  | .lit x => rfl
  | .var i => by
      simp only [E.sub, blt_dec]
      by_cases h : i < n
      · simp only [h, decide_true, cond_true, E.den]; exact (hlo i h).symm
      · simp only [h, decide_false, cond_false, E.den]; exact (hhi i (by omega)).symm
  | .op o a b => by simp only [E.sub, E.den, E.sub_den hhi a, E.sub_den hhi b]
  | .bin o k a b => by simp only [E.sub, E.den, E.sub_den hhi a, E.sub_den hhi b]
  | .conv k a => by simp only [E.sub, E.den, E.sub_den hhi a]
  | .app f l => by simp only [E.sub, E.den, subEL_den hhi l, hf]
  | .ite c a b => by simp only [E.sub, E.den, E.sub_den hhi c, E.sub_den hhi a, E.sub_den hhi b]
  | .cmp o a b => by simp only [E.sub, E.den, E.sub_den hhi a, E.sub_den hhi b]
theorem subEL_den (hhi : ∀ i, n ≤ i → env'.v i = (σ (i - n)).den env) : ∀ l : List E, denL env (subEL n σ l) = denL env' l
  | [] => rfl
  | e :: l => by simp only [subEL, denL, E.sub_den hhi e, subEL_den hhi l]
end
theorem BE.sub_den (hhi : ∀ i, n ≤ i → env'.v i = (σ (i - n)).den env) : ∀ b : BE, (b.sub n σ).den env = b.den env'
  | .lit b => rfl
  | .cmp o a b => by simp only [BE.sub, BE.den, E.sub_den hf hlo hhi]
  | .neg b => by simp only [BE.sub, BE.den, BE.sub_den hhi b]
  | .and a b => by simp only [BE.sub, BE.den, BE.sub_den hhi a, BE.sub_den hhi b]
  | .eqb a b => by simp only [BE.sub, BE.den, BE.sub_den hhi a, BE.sub_den hhi b]
  | .tst e => by simp only [BE.sub, BE.den, E.sub_den hf hlo hhi]
mutual
theorem Rep.sub (hhi : ∀ i, n ≤ i → env'.v i = (σ (i - n)).den env) {ρ : Pl} : ∀ {s : SV} {V : Value}, s.plain = true → Rep env' ρ s V → Rep env ρ (s.sub n σ) V
  | .int k e, V, h, hr => by simp only [SV.sub, Rep, E.sub_den hf hlo hhi] at hr ⊢; exact hr
  | .bool b, V, h, hr => by simp only [SV.sub, Rep, BE.sub_den hf hlo hhi] at hr ⊢; exact hr
  | .str s, V, h, hr => hr
  | .nilIface, V, h, hr => hr
  | .agg l, V, h, hr => by obtain ⟨vs, e, rfl⟩ := hr; exact ⟨vs, RepL.sub hhi (by simpa [SV.plain] using h) e, rfl⟩
  | .tuple l, V, h, hr => by obtain ⟨vs, e, rfl⟩ := hr; exact ⟨vs, RepL.sub hhi (by simpa [SV.plain] using h) e, rfl⟩
  | .ptr _, v, h, hr | .slice .., v, h, hr | .func .., v, h, hr | .nilFunc, v, h, hr | .iface .., v, h, hr | .nilMap, v, h, hr => by cases h
theorem RepL.sub (hhi : ∀ i, n ≤ i → env'.v i = (σ (i - n)).den env) {ρ : Pl} : ∀ {l : List SV} {Vs : List Value}, SV.plainL l = true → RepL env' ρ l Vs → RepL env ρ (SV.subL n σ l) Vs
  | [], Vs, h, hr => hr
  | s :: l, Vs, h, hr => by
      simp only [SV.plainL, Bool.and_eq_true] at h
      obtain ⟨v, vs', e1, e2, rfl⟩ := hr
      exact ⟨v, vs', Rep.sub hhi h.1 e1, RepL.sub hhi h.2 e2, rfl⟩
end
end

theorem atL_den (env : Env) (es : List E) (j : Nat) : (atL es j).den env = (denL env es).getD j 0 := by
  induction es generalizing j with
  | nil => simp [atL, denL, E.den]
  | cons e es ih =>
    cases j with
    | zero => simp [atL, denL]
    | succ j => simp only [denL, List.getD_cons_succ]; rw [← ih j]; simp [atL]

theorem sub_at {n : Nat} {env : Env} {es : List E} (b : BE) : (b.sub n (atL es)).den env = b.den (env.upd n (denL env es)) :=
  BE.sub_den (n := n) (σ := atL es) (env := env) (env' := env.upd n (denL env es)) rfl (fun i hi => by simp [Env.upd, hi]) (fun i hi => by rw [atL_den]; simp only [Env.upd]; rw [if_neg (by omega)]) b
theorem subE_at {n : Nat} {env : Env} {es : List E} (e : E) : (e.sub n (atL es)).den env = e.den (env.upd n (denL env es)) :=
  E.sub_den (n := n) (σ := atL es) (env := env) (env' := env.upd n (denL env es)) rfl (fun i hi => by simp [Env.upd, hi]) (fun i hi => by rw [atL_den]; simp only [Env.upd]; rw [if_neg (by omega)]) e

/-! ### the rounds -/

def CT.ev (env : Env) : CT → Option (Nat × List Int)
  | .again es => some (0, denL env es)
  | .exit j es => some (j + 1, denL env es)
  | .ite c t e => bif c.den env then t.ev env else e.ev env
  | .need c t => bif c.den env then t.ev env else none
  | .fail => none

theorem CT.same_eq : ∀ {a b : CT}, a.same b = true → a = b
  | .again l, b, h => by cases b <;> simp only [CT.same] at h <;> first | (rw [sameL_eq h]) | cases h
  | .exit j l, b, h => by
      cases b <;> simp only [CT.same] at h <;> try (cases h; done)
      simp only [Bool.and_eq_true, beq_dec, decide_eq_true_eq] at h
      rw [h.1, sameL_eq h.2]
  | .ite c t e, b, h => by
      cases b <;> simp only [CT.same] at h <;> try (cases h; done)
      simp only [Bool.and_eq_true] at h
      rw [BE.same_eq h.1.1, CT.same_eq h.1.2, CT.same_eq h.2]
  | .need c t, b, h => by
      cases b <;> simp only [CT.same] at h <;> try (cases h; done)
      simp only [Bool.and_eq_true] at h
      rw [BE.same_eq h.1, CT.same_eq h.2]
  | .fail, b, h => by cases b <;> simp only [CT.same] at h <;> first | rfl | cases h

theorem toCT_at {env : Env} : ∀ {t : PT} {c : Nat} {xs : List Int}, (toCT t).ev env = some (c, xs) → ∃ v cx s es, t.at env = some (.val v cx, s) ∧ decL v = some (c, es) ∧ denL env es = xs
  | .leaf (.val v cx) s, c, xs, h => by
      simp only [toCT] at h
      split at h
      · rename_i es he
        simp only [CT.ev, Option.some.injEq, Prod.mk.injEq] at h
        exact ⟨v, cx, s, es, rfl, by rw [he, h.1], h.2⟩
      · rename_i j es he
        simp only [CT.ev, Option.some.injEq, Prod.mk.injEq] at h
        exact ⟨v, cx, s, es, rfl, by rw [he, ← h.1], h.2⟩
      · cases h
  | .ite b t e, c, xs, h => by
      simp only [toCT, CT.ev] at h
      simp only [PT.at]
      cases hb : b.den env with
      | true => rw [hb, cond_true] at h; simpa using toCT_at h
      | false => rw [hb, cond_false] at h; simpa using toCT_at h
  | .need b t, c, xs, h => by
      simp only [toCT, CT.ev] at h
      simp only [PT.at]
      cases hb : b.den env with
      | true => rw [hb, cond_true] at h; simpa using toCT_at h
      | false => rw [hb, cond_false] at h; cases h
  | .fail _, c, xs, h => by cases h
  | .leaf (.tms _ _) _, c, xs, h => by cases h

def HeadOK (env : Env) (L : LC) (xs : List Int) : Prop :=
  (∀ i lo hi, L.rngs[i]? = some (lo, hi) → lo ≤ (env.upd L.base xs).v (L.base + i) ∧ (env.upd L.base xs).v (L.base + i) ≤ hi) ∧ ∀ b, b ∈ L.facts → b.den (env.upd L.base xs) = true

inductive Runs (env : Env) (L : LC) : List Int → Nat → List Int → Prop where
  | exit {xs j ys} : HeadOK env L xs → L.ct.ev (env.upd L.base xs) = some (j + 1, ys) → Runs env L xs j ys
  | again {xs xs' j ys} : HeadOK env L xs → L.ct.ev (env.upd L.base xs) = some (0, xs') → Runs env L xs' j ys → Runs env L xs j ys

/-- the contract of a loop, over numbers alone -/
def LoopOK (env : Env) (L : LC) : Prop := ∀ xs, xs.length = L.n → HeadOK env L xs → (∀ b, b ∈ L.pre → b.den (env.upd L.base xs) = true) →
  ∃ j ys x, Runs env L xs j ys ∧ L.exits[j]? = some x ∧ env.f L.K (xs ++ denL env L.ex) = (j : Int) ∧ (∀ i, i < x.n → env.f (L.K + 1 + i) (xs ++ denL env L.ex) = ys.getD i 0) ∧
    (∀ b, b ∈ L.post → b.den (env.upd L.base xs) = true) ∧ ∀ e lo hi, (e, lo, hi) ∈ L.prng → lo ≤ e.den (env.upd L.base xs) ∧ e.den (env.upd L.base xs) ≤ hi

end Go.SX
