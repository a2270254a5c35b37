/- Loops: what a pattern says; variables that stand for others.
Calls, rounds, returns: the reckoner is right.
Rows that go round in loops: their names are given anew at each head. -/
import Derived.Test.YtfkkimpcemlmcaaSw10
import Derived.RangeFuncLeaves
namespace Go.SX
open Go Go.RowKit
set_option linter.unusedVariables false
set_option linter.unusedSimpArgs false
set_option linter.unusedSectionVars false

/-- the same functions, the same variables below n -/
def Agree (n : Nat) (env env' : Env) : Prop := env'.f = env.f ∧ ∀ i, i < n → env'.v i = env.v i
def Env.upd (env : Env) (n : Nat) (xs : List Int) : Env := ⟨fun i => if i < n then env.v i else xs.getD (i - n) 0, env.f⟩
theorem Env.agree (env : Env) (n : Nat) (xs : List Int) : Agree n env (env.upd n xs) := ⟨rfl, fun i h => by simp [Env.upd, h]⟩
theorem Agree.symm {n : Nat} {env env' : Env} (h : Agree n env env') : Agree n env' env := ⟨h.1.symm, fun i hi => (h.2 i hi).symm⟩
theorem Env.upd_upd (env : Env) (n : Nat) (xs ys : List Int) : (env.upd n xs).upd n ys = env.upd n ys := by
  simp only [Env.upd, Env.mk.injEq, and_true]
  funext i
  by_cases h : i < n <;> simp [h]

theorem blt_lt {a b : Nat} (h : Nat.blt a b = true) : a < b := by rw [blt_dec] at h; simpa using h

section
variable {n : Nat} {env env' : Env} (ha : Agree n env env')
include ha

mutual
theorem E.low_den : ∀ {e : E}, e.low n = true → e.den env' = e.den env
  | .lit _, h => rfl
  | .var i, h => ha.2 i (blt_lt h)
  | .op o a b, h => by simp only [E.low, Bool.and_eq_true] at h; simp only [E.den, E.low_den h.1, E.low_den h.2]
  | .bin o k a b, h => by simp only [E.low, Bool.and_eq_true] at h; simp only [E.den, E.low_den h.1, E.low_den h.2]
  | .conv k a, h => by simp only [E.low] at h; simp only [E.den, E.low_den h]
  | .app f l, h => by simp only [E.low] at h; simp only [E.den, lowEL_den h, ha.1]
  | .ite c a b, h => by simp only [E.low, Bool.and_eq_true] at h; simp only [E.den, E.low_den h.1.1, E.low_den h.1.2, E.low_den h.2]
  | .cmp o a b, h => by simp only [E.low, Bool.and_eq_true] at h; simp only [E.den, E.low_den h.1, E.low_den h.2]
theorem lowEL_den : ∀ {l : List E}, lowEL n l = true → denL env' l = denL env l
  | [], h => rfl
  | e :: l, h => by simp only [lowEL, Bool.and_eq_true] at h; simp only [denL, E.low_den h.1, lowEL_den h.2]
end
theorem BE.low_den : ∀ {b : BE}, b.low n = true → b.den env' = b.den env
  | .lit _, h => rfl
  | .cmp o a b, h => by simp only [BE.low, Bool.and_eq_true] at h; simp only [BE.den, E.low_den ha h.1, E.low_den ha h.2]
  | .neg b, h => by simp only [BE.low] at h; simp only [BE.den, BE.low_den h]
  | .and a b, h => by simp only [BE.low, Bool.and_eq_true] at h; simp only [BE.den, BE.low_den h.1, BE.low_den h.2]
  | .eqb a b, h => by simp only [BE.low, Bool.and_eq_true] at h; simp only [BE.den, BE.low_den h.1, BE.low_den h.2]
  | .tst e, h => by simp only [BE.low] at h; simp only [BE.den, E.low_den ha h]
theorem SA.low_rep {ρ : Pl} {a : SA} {A : Addr} (h : a.low n = true) (hr : RepA env ρ a A) : RepA env' ρ a A := by
  cases a with
  | c b off => exact hr
  | g b off => exact hr
  | s b ix m off => simp only [SA.low] at h; simp only [RepA, E.low_den ha h] at hr ⊢; exact hr
  | h b ix m off => simp only [SA.low] at h; simp only [RepA, E.low_den ha h] at hr ⊢; exact hr
theorem RepO.low {ρ : Pl} {a : Option SA} {A : Option Addr} (h : optLow (SA.low n) a = true) (hr : RepO env ρ a A) : RepO env' ρ a A := by
  cases a with
  | none => exact hr
  | some a => obtain ⟨A', e, rfl⟩ := hr; exact ⟨A', SA.low_rep ha h e, rfl⟩
theorem RepC.low {ρ : Pl} {a : Option SA} {m c : Nat} {e : Option E} (h : optLow (E.low n) e = true) (hr : RepC env ρ a m c e) : RepC env' ρ a m c e := by
  cases e with
  | none => exact hr
  | some e => simp only [optLow] at h; simp only [RepC, E.low_den ha h] at hr ⊢; exact hr
mutual
theorem Rep.low {ρ : Pl} : ∀ {s : SV} {v : Value}, s.low n = true → Rep env ρ s v → Rep env' ρ s v
  | .int k e, v, h, hr => by simp only [SV.low] at h; simp only [Rep, E.low_den ha h] at hr ⊢; exact hr
  | .bool b, v, h, hr => by simp only [SV.low] at h; simp only [Rep, BE.low_den ha h] at hr ⊢; exact hr
  | .ptr a, v, h, hr => by simp only [SV.low] at h; obtain ⟨A, e, rfl⟩ := hr; exact ⟨A, RepO.low ha h e, rfl⟩
  | .slice a len cap, v, h, hr => by
      simp only [SV.low, Bool.and_eq_true] at h
      obtain ⟨A, c, e, e2, e3, rfl⟩ := hr
      refine ⟨A, c, RepO.low ha h.1.1 e, ?_, ?_, ?_⟩
      · rw [E.low_den ha h.1.2]; exact RepC.low ha h.2 e2
      · rw [E.low_den ha h.1.2]; exact e3
      · rw [E.low_den ha h.1.2]
  | .func f first cap, v, h, hr => by
      simp only [SV.low, Bool.and_eq_true] at h
      obtain ⟨g, fs, cs, e, e1, e2, rfl⟩ := hr
      exact ⟨g, fs, cs, e, RepL.low h.1 e1, RepL.low h.2 e2, rfl⟩
  | .nilFunc, v, h, hr => hr
  | .nilIface, v, h, hr => hr
  | .iface t x, v, h, hr => by obtain ⟨u, e, rfl⟩ := hr; exact ⟨u, Rep.low (by simpa [SV.low] using h) e, rfl⟩
  | .str s, v, h, hr => hr
  | .nilMap, v, h, hr => hr
  | .agg l, v, h, hr => by obtain ⟨vs, e, rfl⟩ := hr; exact ⟨vs, RepL.low (by simpa [SV.low] using h) e, rfl⟩
  | .tuple l, v, h, hr => by obtain ⟨vs, e, rfl⟩ := hr; exact ⟨vs, RepL.low (by simpa [SV.low] using h) e, rfl⟩
  | .any, v, h, hr => trivial
  | .vsl b len, v, h, hr => by
      simp only [SV.low] at h
      obtain ⟨r, o, e, h0, hr⟩ := hr
      refine ⟨r, o, e, ?_, ?_⟩
      · rw [E.low_den ha h]; exact h0
      · rw [E.low_den ha h]; exact hr
  | .vg b len, v, h, hr => by
      simp only [SV.low] at h
      obtain ⟨r, c, e, hr⟩ := hr
      refine ⟨r, c, e, ?_⟩
      rw [E.low_den ha h]; exact hr
theorem RepL.low {ρ : Pl} : ∀ {l : List SV} {vs : List Value}, SV.lowL n l = true → RepL env ρ l vs → RepL env' ρ l vs
  | [], vs, h, hr => hr
  | s :: l, vs, h, hr => by
      simp only [SV.lowL, Bool.and_eq_true] at h
      obtain ⟨v, vs', e1, e2, rfl⟩ := hr
      exact ⟨v, vs', Rep.low h.1 e1, RepL.low h.2 e2, rfl⟩
end
theorem BS.low {ρ : Pl} {ob : Option Obj} {o : Nat} {v : Blk} (h : v.low n = true) (hb : BS env ρ ob o v) : BS env' ρ ob o v := by
  cases v with
  | cells l t => obtain ⟨ho, cs, hr, e⟩ := hb; exact ⟨ho, cs, RepL.low ha h hr, e⟩
  | ro l => obtain ⟨c, t, fz, cs, e, hr, hc⟩ := hb; exact ⟨c, t, fz, cs, e, RepL.low ha h hr, hc⟩
  | arr sig F as m =>
    simp only [Blk.low, Bool.and_eq_true] at h
    obtain ⟨c, t, fz, e, h0, hc⟩ := hb
    refine ⟨c, t, fz, e, ?_, ?_⟩
    · rw [E.low_den ha h.2]; exact h0
    · rw [E.low_den ha h.2, lowEL_den ha h.1, ha.1]; exact hc
  | loop L => cases h
  | big z m n t => cases h
  | dfr tk => exact hb
  | grow l t m => obtain ⟨cs, cur, hr, e⟩ := hb; exact ⟨cs, cur, RepL.low ha h hr, e⟩
  | dead => exact hb
  | vec sig code m t =>
    simp only [Blk.low, Bool.and_eq_true] at h
    obtain ⟨cur, e, h0, h1, hc⟩ := hb
    refine ⟨cur, e, h0, ?_, ?_⟩
    · rw [E.low_den ha h.2]; exact h1
    · rw [E.low_den ha h.2, E.low_den ha h.1]; exact hc
theorem Blk.low_wf {v : Blk} (h : v.low n = true) (hb : v.wf env) : v.wf env' := by
  cases v with
  | vec sig code m t =>
    simp only [Blk.low, Bool.and_eq_true] at h
    simp only [Blk.wf, VecOK] at hb ⊢
    rw [E.low_den ha h.2, E.low_den ha h.1]; exact hb
  | _ => trivial
end

section
variable {n : Nat} {env env' : Env} (ha : Agree n env env')
include ha
theorem Blk.low_void {v : Blk} (c : Nat) (h : v.low n = true) : v.void env' c = v.void env c := by
  cases v with
  | arr sig F as m =>
    simp only [Blk.low, Bool.and_eq_true] at h
    simp only [Blk.void, E.low_den ha h.2]
  | vec sig code m t =>
    simp only [Blk.low, Bool.and_eq_true] at h
    simp only [Blk.void, E.low_den ha h.2]
  | _ => rfl
end

/-! ### places that were known before -/

section
variable {env1 env2 : Env} {ρ ρ' : Pl} (hle : ρ.le ρ')
include hle
theorem RepA.back {a : SA} {A0 A : Addr} (h0 : RepA env1 ρ a A0) (h : RepA env2 ρ' a A) : RepA env2 ρ a A := by
  cases a with
  | c b off => obtain ⟨r, o, e, _⟩ := h0; obtain ⟨r', o', e', rfl⟩ := h; rw [hle _ _ e] at e'; cases e'; exact ⟨r, o, e, rfl⟩
  | g b off => obtain ⟨r, o, e, _⟩ := h0; obtain ⟨r', o', e', rfl⟩ := h; rw [hle _ _ e] at e'; cases e'; exact ⟨r, o, e, rfl⟩
  | s b ix m off => obtain ⟨r, o, e, _⟩ := h0; obtain ⟨r', o', e', hn, rfl⟩ := h; rw [hle _ _ e] at e'; cases e'; exact ⟨r, o, e, hn, rfl⟩
  | h b ix m off => obtain ⟨r, o, e, _⟩ := h0; obtain ⟨r', o', e', hn, rfl⟩ := h; rw [hle _ _ e] at e'; cases e'; exact ⟨r, o, e, hn, rfl⟩
theorem RepO.back {a : Option SA} {A0 A : Option Addr} (h0 : RepO env1 ρ a A0) (h : RepO env2 ρ' a A) : RepO env2 ρ a A := by
  cases a with
  | none => exact h
  | some a => obtain ⟨_, e0, _⟩ := h0; obtain ⟨A', e, rfl⟩ := h; exact ⟨A', RepA.back hle e0 e, rfl⟩
theorem capOf_rep {a : Option SA} {A0 : Option Addr} (h0 : RepO env1 ρ a A0) {b : Nat} (hb : capOf a = some b) : ∃ p, ρ b = some p := by
  cases a with
  | none => cases hb
  | some a =>
    obtain ⟨_, e0, _⟩ := h0
    cases a with
    | c => cases hb
    | s => cases hb
    | g b' off =>
      obtain ⟨r, o, e, _⟩ := e0
      cases off with
      | zero => cases hb; exact ⟨_, e⟩
      | succ m => cases hb
    | h => cases hb
theorem RepF.back {a : SFn} {A0 A : Fn} (h0 : RepF ρ a A0) (h : RepF ρ' a A) : RepF ρ a A := by
  cases a with
  | func f => exact h
  | yield l => obtain ⟨r, o, e, _⟩ := h0; obtain ⟨r', o', e', rfl⟩ := h; rw [hle _ _ e] at e'; cases e'; exact ⟨r, o, e, rfl⟩
mutual
theorem Rep.back : ∀ {s : SV} {V0 V : Value}, Rep env1 ρ s V0 → Rep env2 ρ' s V → Rep env2 ρ s V
  | .int k e, V0, V, h0, h => h
  | .bool b, V0, V, h0, h => h
  | .ptr a, V0, V, h0, h => by obtain ⟨A0, e0, _⟩ := h0; obtain ⟨A, e, rfl⟩ := h; exact ⟨A, RepO.back hle e0 e, rfl⟩
  | .slice a len cap, V0, V, h0, h => by
      obtain ⟨A0, c0, e0, f0, _, _⟩ := h0
      obtain ⟨A, c, e, f, g, rfl⟩ := h
      refine ⟨A, c, RepO.back hle e0 e, ?_, g, rfl⟩
      cases cap with
      | some x => exact f
      | none =>
        refine ⟨f.1, fun b hb => ?_⟩
        obtain ⟨r, e1⟩ := f.2 b hb
        obtain ⟨p, hp⟩ := capOf_rep hle e0 hb
        rw [hle _ _ hp] at e1
        cases e1
        exact ⟨r, hp⟩
  | .func f first cap, V0, V, h0, h => by
      obtain ⟨_, _, _, e0, f0, g0, _⟩ := h0
      obtain ⟨g, fs, cs, e, e1, e2, rfl⟩ := h
      exact ⟨g, fs, cs, RepF.back hle e0 e, RepL.back f0 e1, RepL.back g0 e2, rfl⟩
  | .nilFunc, V0, V, h0, h => h
  | .nilIface, V0, V, h0, h => h
  | .iface t x, V0, V, h0, h => by obtain ⟨_, e0, _⟩ := h0; obtain ⟨u, e, rfl⟩ := h; exact ⟨u, Rep.back e0 e, rfl⟩
  | .str s, V0, V, h0, h => h
  | .nilMap, V0, V, h0, h => h
  | .agg l, V0, V, h0, h => by obtain ⟨_, e0, _⟩ := h0; obtain ⟨vs, e, rfl⟩ := h; exact ⟨vs, RepL.back e0 e, rfl⟩
  | .tuple l, V0, V, h0, h => by obtain ⟨_, e0, _⟩ := h0; obtain ⟨vs, e, rfl⟩ := h; exact ⟨vs, RepL.back e0 e, rfl⟩
  | .any, V0, V, h0, h => trivial
  | .vsl b len, V0, V, h0, h => by
      obtain ⟨r0, o0, e0, _⟩ := h0
      obtain ⟨r, o, e, h1⟩ := h
      rw [hle _ _ e0] at e
      cases e
      exact ⟨r0, o0, e0, h1⟩
  | .vg b len, V0, V, h0, h => by
      obtain ⟨r0, o0, e0, _⟩ := h0
      obtain ⟨r, o, e, h1⟩ := h
      rw [hle _ _ e0] at e
      cases e
      exact ⟨r0, o0, e0, h1⟩
theorem RepL.back : ∀ {l : List SV} {V0 V : List Value}, RepL env1 ρ l V0 → RepL env2 ρ' l V → RepL env2 ρ l V
  | [], V0, V, h0, h => h
  | s :: l, V0, V, h0, h => by
      obtain ⟨_, _, e0, f0, _⟩ := h0
      obtain ⟨v, vs', e1, e2, rfl⟩ := h
      exact ⟨v, vs', Rep.back e0 e1, RepL.back f0 e2, rfl⟩
end
theorem BS.back {ob0 ob : Option Obj} {o : Nat} {v : Blk} {n : Nat} (hl : v.low n = true) (h0 : BS env1 ρ ob0 o v) (h : BS env2 ρ' ob o v) : BS env2 ρ ob o v := by
  cases v with
  | cells l t => obtain ⟨_, _, e0, _⟩ := h0; obtain ⟨ho, cs, hr, e⟩ := h; exact ⟨ho, cs, RepL.back hle e0 hr, e⟩
  | ro l => obtain ⟨_, _, _, _, _, e0, _⟩ := h0; obtain ⟨c, t, fz, cs, e, hr, hc⟩ := h; exact ⟨c, t, fz, cs, e, RepL.back hle e0 hr, hc⟩
  | arr sig F as m => exact h
  | loop L => cases hl
  | big z m n t => cases hl
  | dfr tk => exact h
  | grow l t m => obtain ⟨_, _, e0, _⟩ := h0; obtain ⟨cs, cur, hr, e⟩ := h; exact ⟨cs, cur, RepL.back hle e0 hr, e⟩
  | dead => exact h
  | vec sig code n t => exact h
theorem BS.back1 {ob0 ob : Option Obj} {o : Nat} {v : Blk} (h0 : BS env1 ρ ob0 o v) (h : BS env2 ρ' ob o v) : BS env2 ρ ob o v := by
  cases v with
  | cells l t => obtain ⟨_, _, e0, _⟩ := h0; obtain ⟨ho, cs, hr, e⟩ := h; exact ⟨ho, cs, RepL.back hle e0 hr, e⟩
  | ro l => obtain ⟨_, _, _, _, _, e0, _⟩ := h0; obtain ⟨c, t, fz, cs, e, hr, hc⟩ := h; exact ⟨c, t, fz, cs, e, RepL.back hle e0 hr, hc⟩
  | arr sig F as m => exact h
  | big z m n t => obtain ⟨_, _, e0, _⟩ := h0; obtain ⟨ho, cs, hr, e⟩ := h; exact ⟨ho, cs, RepL.back hle e0 hr, e⟩
  | loop L =>
    obtain ⟨lp0, _, a0⟩ := h0
    obtain ⟨lp, e, a1, a2, a3, a4, a5, a6, a7, a8, o', a9⟩ := h
    obtain ⟨b1, b2, b3, b4, b5, b6, b7, b8, o0, b9⟩ := a0
    refine ⟨lp, e, a1, a2, a3, a4, ?_, a6, a7, a8, o0, ?_⟩
    · intro t s hts
      obtain ⟨v, hv, hr⟩ := a5 t s hts
      obtain ⟨v0, _, hr0⟩ := b5 t s hts
      exact ⟨v, hv, Rep.back hle hr0 hr⟩
    · have e9 := (hle _ _ b9).symm.trans a9
      simp only [Option.some.injEq, Prod.mk.injEq] at e9
      rw [← e9.1]
      exact b9
  | dfr tk => exact h
  | grow l t m => obtain ⟨_, _, e0, _⟩ := h0; obtain ⟨cs, cur, hr, e⟩ := h; exact ⟨cs, cur, RepL.back hle e0 hr, e⟩
  | dead => exact h
  | vec sig code n t => exact h
end

/-! ### values with old names alone -/

section
variable {env : Env} {ρ ρ' : Pl} {n : Nat} (hd : ∀ b, b < n → ∀ p, ρ' b = some p → ρ b = some p)
include hd
theorem RepA.down {a : SA} {A : Addr} (ho : a.older n = true) (h : RepA env ρ' a A) : RepA env ρ a A := by
  cases a with
  | c b off => obtain ⟨r, o, e, rfl⟩ := h; exact ⟨r, o, hd b (by simp only [SA.older, blt_dec, decide_eq_true_eq] at ho; exact ho) _ e, rfl⟩
  | g b off => obtain ⟨r, o, e, rfl⟩ := h; exact ⟨r, o, hd b (by simp only [SA.older, blt_dec, decide_eq_true_eq] at ho; exact ho) _ e, rfl⟩
  | s b ix m off => obtain ⟨r, o, e, hn, rfl⟩ := h; exact ⟨r, o, hd b (by simp only [SA.older, blt_dec, decide_eq_true_eq] at ho; exact ho) _ e, hn, rfl⟩
  | h b ix m off => obtain ⟨r, o, e, hn, rfl⟩ := h; exact ⟨r, o, hd b (by simp only [SA.older, blt_dec, decide_eq_true_eq] at ho; exact ho) _ e, hn, rfl⟩
theorem RepO.down {a : Option SA} {A : Option Addr} (ho : optOlder n a = true) (h : RepO env ρ' a A) : RepO env ρ a A := by
  cases a with
  | none => exact h
  | some a => obtain ⟨A', e, rfl⟩ := h; exact ⟨A', RepA.down hd ho e, rfl⟩
theorem RepF.down {a : SFn} {A : Fn} (ho : a.older n = true) (h : RepF ρ' a A) : RepF ρ a A := by
  cases a with
  | func f => exact h
  | yield l => obtain ⟨r, o, e, rfl⟩ := h; exact ⟨r, o, hd l (by simp only [SFn.older, blt_dec, decide_eq_true_eq] at ho; exact ho) _ e, rfl⟩
mutual
theorem Rep.down : ∀ {s : SV} {V : Value}, s.older n = true → Rep env ρ' s V → Rep env ρ s V
  | .int k e, V, ho, h => h
  | .bool b, V, ho, h => h
  | .ptr a, V, ho, h => by obtain ⟨A, e, rfl⟩ := h; exact ⟨A, RepO.down hd ho e, rfl⟩
  | .slice a len cap, V, ho, h => by
      obtain ⟨A, c, e, f, g, rfl⟩ := h
      refine ⟨A, c, RepO.down hd ho e, ?_, g, rfl⟩
      cases cap with
      | some x => exact f
      | none =>
        refine ⟨f.1, fun b hb => ?_⟩
        obtain ⟨r, e1⟩ := f.2 b hb
        refine ⟨r, hd b ?_ _ e1⟩
        cases a with
        | none => cases hb
        | some a =>
          cases a with
          | c => cases hb
          | s => cases hb
          | g b' off =>
            cases off with
            | zero =>
              cases hb
              simp only [SV.older, optOlder, SA.older, blt_dec, decide_eq_true_eq] at ho
              exact ho
            | succ m => cases hb
          | h => cases hb
  | .func f first cap, V, ho, h => by
      simp only [SV.older, Bool.and_eq_true] at ho
      obtain ⟨g, fs, cs, e, e1, e2, rfl⟩ := h
      exact ⟨g, fs, cs, RepF.down hd ho.1.1 e, RepL.down ho.1.2 e1, RepL.down ho.2 e2, rfl⟩
  | .nilFunc, V, ho, h => h
  | .nilIface, V, ho, h => h
  | .iface t x, V, ho, h => by obtain ⟨u, e, rfl⟩ := h; exact ⟨u, Rep.down (by simpa only [SV.older] using ho) e, rfl⟩
  | .str s, V, ho, h => h
  | .nilMap, V, ho, h => h
  | .agg l, V, ho, h => by obtain ⟨vs, e, rfl⟩ := h; exact ⟨vs, RepL.down (by simpa only [SV.older] using ho) e, rfl⟩
  | .tuple l, V, ho, h => by obtain ⟨vs, e, rfl⟩ := h; exact ⟨vs, RepL.down (by simpa only [SV.older] using ho) e, rfl⟩
  | .any, V, ho, h => trivial
  | .vsl b len, V, ho, h => by
      obtain ⟨r, o, e, h1⟩ := h
      simp only [SV.older, blt_dec, decide_eq_true_eq] at ho
      exact ⟨r, o, hd b ho _ e, h1⟩
  | .vg b len, V, ho, h => by
      obtain ⟨r, o, e, h1⟩ := h
      simp only [SV.older, blt_dec, decide_eq_true_eq] at ho
      exact ⟨r, o, hd b ho _ e, h1⟩
theorem RepL.down : ∀ {l : List SV} {Vs : List Value}, SV.olderL n l = true → RepL env ρ' l Vs → RepL env ρ l Vs
  | [], V, ho, h => h
  | s :: l, V, ho, h => by
      simp only [SV.olderL, Bool.and_eq_true] at ho
      obtain ⟨v, vs', e1, e2, rfl⟩ := h
      exact ⟨v, vs', Rep.down ho.1 e1, RepL.down ho.2 e2, rfl⟩
end
end

/-- the store behind a join that has turned nothing old -/
theorem HS.joined {env : Env} {ρ ρ' : Pl} {B : Nat} {h h' : T Blk} {w w' : World} (hle : ρ.le ρ') (h0 : HS env ρ B h w) (h1 : HS env ρ' B h' w') (hk : ∀ b v, h.get b = some v → h'.get b = some v) : HS env ρ B h w' := by
  refine ⟨fun b v hg => ?_, h0.dom, h0.inj, h1.size, h0.wf, h0.rows⟩
  obtain ⟨r, o, e, hb⟩ := h0.blk b v hg
  obtain ⟨r', o', e', hb'⟩ := h1.blk b v (hk b v hg)
  rw [hle _ _ e] at e'
  cases e'
  exact ⟨r, o, e, fun hv => ⟨BS.back1 hle (hb hv).1 (hb' hv).1, (hb hv).2⟩⟩
theorem HS.downs {env : Env} {ρ ρ' : Pl} {B : Nat} {h h' : T Blk} {w w' : World} {n : Nat} (hle : ρ.le ρ') (h0 : HS env ρ B h w) (h1 : HS env ρ' B h' w') (hk : ∀ b, b < n → h'.get b = h.get b) : ∀ b, b < n → ∀ p, ρ' b = some p → ρ b = some p := by
  intro b hb p hp
  have h2 := h1.dom b p hp
  rw [hk b hb] at h2
  cases hg : h.get b with
  | none => exact absurd hg h2
  | some v =>
    obtain ⟨r, o, e, _⟩ := h0.blk b v hg
    have := hle _ _ e
    rw [hp] at this
    cases this
    exact e

theorem fixP_env {env env' : Env} {ρ : Pl} {a : Option SA} {V : Value} (h : optFix a = true) (hr : Rep env ρ (.ptr a) V) : Rep env' ρ (.ptr a) V := by
  obtain ⟨A, e, rfl⟩ := hr
  refine ⟨A, ?_, rfl⟩
  cases a with
  | none => exact e
  | some a =>
    cases a with
    | c b off => exact e
    | _ => cases h
mutual
theorem Rep.plain {env : Env} {ρ ρ' : Pl} : ∀ {s : SV} {v : Value}, s.plain = true → Rep env ρ s v → Rep env ρ' s v
  | .int k e, v, h, hr => hr
  | .bool b, v, h, hr => hr
  | .str s, v, h, hr => hr
  | .nilIface, v, h, hr => hr
  | .agg l, v, h, hr => by obtain ⟨vs, e, rfl⟩ := hr; exact ⟨vs, RepL.plain (by simpa [SV.plain] using h) e, rfl⟩
  | .tuple l, v, h, hr => by obtain ⟨vs, e, rfl⟩ := hr; exact ⟨vs, RepL.plain (by simpa [SV.plain] using h) e, rfl⟩
  | .ptr _, v, h, hr | .slice .., v, h, hr | .func .., v, h, hr | .nilFunc, v, h, hr | .iface .., v, h, hr | .nilMap, v, h, hr => by cases h
theorem RepL.plain {env : Env} {ρ ρ' : Pl} : ∀ {l : List SV} {vs : List Value}, SV.plainL l = true → RepL env ρ l vs → RepL env ρ' l vs
  | [], vs, h, hr => hr
  | s :: l, vs, h, hr => by
      simp only [SV.plainL, Bool.and_eq_true] at h
      obtain ⟨v, vs', e1, e2, rfl⟩ := hr
      exact ⟨v, vs', Rep.plain h.1 e1, RepL.plain h.2 e2, rfl⟩
end

/-! ### patterns -/

def AsgOK (env env' : Env) (l : Asg) : Prop := ∀ i e, getA i l = some e → env'.v i = e.den env
def Asg.le (l l' : Asg) : Prop := ∀ i e, getA i l = some e → getA i l' = some e
theorem Asg.le_refl (l : Asg) : Asg.le l l := fun _ _ h => h
theorem Asg.le_trans {a b c : Asg} (h : Asg.le a b) (h' : Asg.le b c) : Asg.le a c := fun i e x => h' i e (h i e x)
theorem AsgOK.mono {env env' : Env} {l l' : Asg} (h : Asg.le l l') (ha : AsgOK env env' l') : AsgOK env env' l := fun i e x => ha i e (h i e x)

theorem putA_ok {i : Nat} {e : E} {l l' : Asg} (h : putA i e l = some l') : Asg.le l l' ∧ getA i l' = some e := by
  unfold putA at h
  split at h
  · rename_i e' he
    cases hs : e.same e' with
    | false => rw [hs, cond_false] at h; cases h
    | true =>
      rw [hs, cond_true] at h
      cases h
      rw [E.same_eq hs]
      exact ⟨Asg.le_refl _, he⟩
  · rename_i he
    cases h
    refine ⟨?_, by simp [getA]⟩
    intro j x hj
    simp only [getA, beq_dec]
    by_cases hji : j = i
    · subst hji; rw [he] at hj; cases hj
    · simp [hji, hj]

section
variable {n : Nat} {env env' : Env} (ha : Agree n env env')
include ha

theorem matchE_ok {t e : E} {l l' : Asg} (h : matchE n t e l = some l') : Asg.le l l' ∧ (AsgOK env env' l' → t.den env' = e.den env) := by
  have gen : (bif t.low n && t.same e then some l else none) = some l' → Asg.le l l' ∧ (AsgOK env env' l' → t.den env' = e.den env) := by
    intro h
    cases hb : (t.low n && t.same e) with
    | false => rw [hb, cond_false] at h; cases h
    | true =>
      rw [hb, cond_true] at h
      cases h
      simp only [Bool.and_eq_true] at hb
      refine ⟨Asg.le_refl _, fun _ => ?_⟩
      rw [← E.same_eq hb.2]
      exact E.low_den ha hb.1
  cases t with
  | var i =>
    simp only [matchE] at h
    cases hi : Nat.blt i n with
    | true =>
      rw [hi, cond_true] at h
      cases hs : e.same (.var i) with
      | false => rw [hs, cond_false] at h; cases h
      | true =>
        rw [hs, cond_true] at h
        cases h
        refine ⟨Asg.le_refl _, fun _ => ?_⟩
        rw [E.same_eq hs]
        exact ha.2 i (blt_lt hi)
    | false =>
      rw [hi, cond_false] at h
      obtain ⟨h1, h2⟩ := putA_ok h
      exact ⟨h1, fun hA => hA i e h2⟩
  | lit | op | bin | conv | app | ite | cmp => exact gen h

mutual
theorem matchV_ok : ∀ {t v : SV} {l l' : Asg}, matchV n t v l = some l' → Asg.le l l' ∧ (AsgOK env env' l' → ∀ ρ V, Rep env ρ v V → Rep env' ρ t V)
  | .int k t, v, l, l', h => by
      cases v <;> simp only [matchV] at h <;> try (cases h; done)
      rename_i k' e
      cases hk : decide (k = k') with
      | false => rw [hk, cond_false] at h; cases h
      | true =>
        rw [hk, cond_true] at h
        obtain ⟨h1, h2⟩ := matchE_ok ha h
        refine ⟨h1, fun hA ρ V hr => ?_⟩
        have : k = k' := by simpa using hk
        simp only [Rep] at hr ⊢
        rw [hr, h2 hA, this]
  | .bool (.tst t), v, l, l', h => by
      cases v <;> simp only [matchV] at h <;> try (cases h; done)
      rename_i b
      obtain ⟨h1, h2⟩ := matchE_ok ha h
      refine ⟨h1, fun hA ρ V hr => ?_⟩
      simp only [Rep, BE.den] at hr ⊢
      rw [hr, h2 hA, toE_ok]
      cases b.den env <;> rfl
  | .bool (.lit x), v, l, l', h => by
      cases v with
      | bool b =>
        cases b <;> simp only [matchV] at h <;> try (cases h; done)
        rename_i y
        cases hxy : (x == y) with
        | false => rw [hxy, cond_false] at h; cases h
        | true =>
          rw [hxy, cond_true] at h
          cases h
          refine ⟨Asg.le_refl _, fun hA ρ V hr => ?_⟩
          have : x = y := by simpa using hxy
          simp only [Rep, BE.den] at hr ⊢
          rw [hr, this]
      | _ => simp [matchV] at h
  | .bool (.cmp ..), v, l, l', h => by simp [matchV] at h
  | .bool (.neg ..), v, l, l', h => by simp [matchV] at h
  | .bool (.and ..), v, l, l', h => by simp [matchV] at h
  | .bool (.eqb ..), v, l, l', h => by simp [matchV] at h
  | .agg ts, v, l, l', h => by
      cases v <;> simp only [matchV] at h <;> try (cases h; done)
      obtain ⟨h1, h2⟩ := matchL_ok h
      refine ⟨h1, fun hA ρ V hr => ?_⟩
      obtain ⟨vs, e, rfl⟩ := hr
      exact ⟨vs, h2 hA ρ vs e, rfl⟩
  | .tuple ts, v, l, l', h => by
      cases v <;> simp only [matchV] at h <;> try (cases h; done)
      obtain ⟨h1, h2⟩ := matchL_ok h
      refine ⟨h1, fun hA ρ V hr => ?_⟩
      obtain ⟨vs, e, rfl⟩ := hr
      exact ⟨vs, h2 hA ρ vs e, rfl⟩
  | .nilIface, v, l, l', h => by
      cases v <;> simp only [matchV] at h <;> try (cases h; done)
      cases h
      exact ⟨Asg.le_refl _, fun hA ρ V hr => hr⟩
  | .str a, v, l, l', h => by
      cases v <;> simp only [matchV] at h <;> try (cases h; done)
      rename_i b
      obtain ⟨a⟩ := a
      obtain ⟨b⟩ := b
      cases hab : decide (a = b) with
      | false => simp only [hab, cond_false] at h; cases h
      | true =>
        simp only [hab, cond_true] at h
        cases h
        have : a = b := by simpa using hab
        subst this
        exact ⟨Asg.le_refl _, fun hA ρ V hr => hr⟩
  | .ptr a, v, l, l', h => by
      cases v <;> simp only [matchV] at h <;> try (cases h; done)
      rename_i b
      cases hab : (optFix a && optA a b) with
      | false => rw [hab, cond_false] at h; cases h
      | true =>
        rw [hab, cond_true] at h
        cases h
        simp only [Bool.and_eq_true] at hab
        have := optA_eq hab.2
        subst this
        exact ⟨Asg.le_refl _, fun hA ρ V hr => fixP_env hab.1 hr⟩
  | .slice .., v, l, l', h => by simp [matchV] at h
  | .func .., v, l, l', h => by simp [matchV] at h
  | .nilFunc, v, l, l', h => by simp [matchV] at h
  | .iface .., v, l, l', h => by simp [matchV] at h
  | .nilMap, v, l, l', h => by simp [matchV] at h
theorem matchL_ok : ∀ {ts vs : List SV} {l l' : Asg}, matchL n ts vs l = some l' → Asg.le l l' ∧ (AsgOK env env' l' → ∀ ρ Vs, RepL env ρ vs Vs → RepL env' ρ ts Vs)
  | [], vs, l, l', h => by
      cases vs <;> simp only [matchL] at h <;> try (cases h; done)
      cases h
      exact ⟨Asg.le_refl _, fun hA ρ V hr => hr⟩
  | t :: ts, vs, l, l', h => by
      cases vs <;> simp only [matchL] at h <;> try (cases h; done)
      split at h
      · rename_i l1 h1
        obtain ⟨a1, a2⟩ := matchV_ok h1
        obtain ⟨b1, b2⟩ := matchL_ok h
        refine ⟨Asg.le_trans a1 b1, fun hA ρ V hr => ?_⟩
        obtain ⟨u, us, e1, e2, rfl⟩ := hr
        exact ⟨u, us, a2 (hA.mono b1) ρ u e1, b2 hA ρ us e2, rfl⟩
      · cases h
end

theorem matchT_ok {tm : T SV} : ∀ {ps : List (Nat × SV)} {l l' : Asg}, matchT n tm ps l = some l' →
    Asg.le l l' ∧ (AsgOK env env' l' → ∀ ρ tmps, TS env ρ tm tmps → ∀ t p, (t, p) ∈ ps → ∃ V, tmps[t]? = some V ∧ Rep env' ρ p V)
  | [], l, l', h => by cases h; exact ⟨Asg.le_refl _, fun _ ρ tmps ht t p hm => by simp at hm⟩
  | (t, p) :: r, l, l', h => by
      simp only [matchT] at h
      split at h
      · rename_i v hv
        split at h
        · rename_i l1 h1
          obtain ⟨a1, a2⟩ := matchV_ok ha h1
          obtain ⟨b1, b2⟩ := matchT_ok h
          refine ⟨Asg.le_trans a1 b1, fun hA ρ tmps ht t' p' hm => ?_⟩
          rcases List.mem_cons.1 hm with hm | hm
          · cases hm
            obtain ⟨V, hV, hr⟩ := ht _ _ hv
            exact ⟨V, hV, a2 (hA.mono b1) ρ V hr⟩
          · exact b2 hA ρ tmps ht t' p' hm
        · cases h
      · cases h

theorem matchB_ok {h0 hp : T Blk} : ∀ {ps : List (Nat × List SV)} {l l' : Asg}, matchB n h0 hp ps l = some l' →
    Asg.le l l' ∧ (AsgOK env env' l' → ∀ b p, (b, p) ∈ ps → ∃ us vs ty, h0.get b = some (.cells us ty) ∧ hp.get b = some (.cells vs ty) ∧ ∀ ρ Vs, RepL env ρ vs Vs → RepL env' ρ p Vs)
  | [], l, l', h => by cases h; exact ⟨Asg.le_refl _, fun _ b p hm => by simp at hm⟩
  | (b, p) :: r, l, l', h => by
      simp only [matchB] at h
      split at h
      · rename_i us ty0 vs ty hu hv
        simp only [beq_dec] at h
        by_cases hty : ty0 = ty
        case neg => simp only [hty, decide_false, cond_false] at h; cases h
        subst hty
        simp only [decide_true, cond_true] at h
        split at h
        · rename_i l1 h1
          obtain ⟨a1, a2⟩ := matchL_ok ha h1
          obtain ⟨b1, b2⟩ := matchB_ok h
          refine ⟨Asg.le_trans a1 b1, fun hA b' p' hm => ?_⟩
          rcases List.mem_cons.1 hm with hm | hm
          · cases hm
            exact ⟨us, vs, ty0, hu, hv, a2 (hA.mono b1)⟩
          · exact b2 hA b' p' hm
        · cases h
      · cases h
end

theorem getA_mem {i : Nat} {e : E} : ∀ {l : Asg}, getA i l = some e → (i, e) ∈ l
  | [], h => by cases h
  | (j, x) :: l, h => by
      simp only [getA, beq_dec] at h
      by_cases hij : i = j
      · subst hij; simp at h; subst h; simp
      · simp [hij] at h; simp [getA_mem h]

theorem denL_asgL {env : Env} {l : Asg} : ∀ (m i j : Nat), j < m → (denL env (asgL l i m)).getD j 0 = ((getA (i + j) l).getD (.lit 0)).den env
  | 0, i, j, h => by omega
  | m + 1, i, 0, h => by simp [asgL, denL]
  | m + 1, i, j + 1, h => by
      simp only [asgL, denL, List.getD_cons_succ]
      rw [denL_asgL m (i + 1) j (by omega), show i + 1 + j = i + (j + 1) by omega]
theorem length_asgL {l : Asg} : ∀ (m i : Nat), (asgL l i m).length = m
  | 0, i => rfl
  | m + 1, i => by simp [asgL, length_asgL m]
theorem length_denL {env : Env} : ∀ (l : List E), (denL env l).length = l.length
  | [] => rfl
  | e :: l => by simp [denL, length_denL l]

theorem asg_upd {env : Env} {n m : Nat} {l : Asg} (h : asgIn n m l = true) : AsgOK env (env.upd n (denL env (asgL l n m))) l := by
  intro i e he
  simp only [asgIn, List.all_eq_true] at h
  have := h _ (getA_mem he)
  simp only [Bool.and_eq_true, Nat.ble_eq] at this
  have h2 := blt_lt this.2
  simp only [Env.upd]
  rw [if_neg (by omega), denL_asgL m n (i - n) (by omega), show n + (i - n) = i by omega, he]
  rfl

/-! ### variables that stand for others -/

section
variable {n : Nat} {σ : Nat → E} {env env' : Env} (hf : env'.f = env.f) (hlo : ∀ i, i < n → env'.v i = env.v i)
include hf hlo
mutual
theorem E.sub_den (hhi : ∀ i, n ≤ i → env'.v i = (σ (i - n)).den env) : ∀ e : E, (e.sub n σ).den env = e.den env'
  | .lit x => rfl
  | .var i => by
      simp only [E.sub, blt_dec]
      by_cases h : i < n
      · simp only [h, decide_true, cond_true, E.den]; exact (hlo i h).symm
      · simp only [h, decide_false, cond_false, E.den]; exact (hhi i (by omega)).symm
  | .op o a b => by simp only [E.sub, E.den, E.sub_den hhi a, E.sub_den hhi b]
  | .bin o k a b => by simp only [E.sub, E.den, E.sub_den hhi a, E.sub_den hhi b]
  | .conv k a => by simp only [E.sub, E.den, E.sub_den hhi a]
  | .app f l => by simp only [E.sub, E.den, subEL_den hhi l, hf]
  | .ite c a b => by simp only [E.sub, E.den, E.sub_den hhi c, E.sub_den hhi a, E.sub_den hhi b]
  | .cmp o a b => by simp only [E.sub, E.den, E.sub_den hhi a, E.sub_den hhi b]
theorem subEL_den (hhi : ∀ i, n ≤ i → env'.v i = (σ (i - n)).den env) : ∀ l : List E, denL env (subEL n σ l) = denL env' l
  | [] => rfl
  | e :: l => by simp only [subEL, denL, E.sub_den hhi e, subEL_den hhi l]
end
theorem BE.sub_den (hhi : ∀ i, n ≤ i → env'.v i = (σ (i - n)).den env) : ∀ b : BE, (b.sub n σ).den env = b.den env'
  | .lit b => rfl
  | .cmp o a b => by simp only [BE.sub, BE.den, E.sub_den hf hlo hhi]
  | .neg b => by simp only [BE.sub, BE.den, BE.sub_den hhi b]
  | .and a b => by simp only [BE.sub, BE.den, BE.sub_den hhi a, BE.sub_den hhi b]
  | .eqb a b => by simp only [BE.sub, BE.den, BE.sub_den hhi a, BE.sub_den hhi b]
  | .tst e => by simp only [BE.sub, BE.den, E.sub_den hf hlo hhi]
mutual
theorem Rep.sub (hhi : ∀ i, n ≤ i → env'.v i = (σ (i - n)).den env) {ρ : Pl} : ∀ {s : SV} {V : Value}, s.plain = true → Rep env' ρ s V → Rep env ρ (s.sub n σ) V
  | .int k e, V, h, hr => by simp only [SV.sub, Rep, E.sub_den hf hlo hhi] at hr ⊢; exact hr
  | .bool b, V, h, hr => by simp only [SV.sub, Rep, BE.sub_den hf hlo hhi] at hr ⊢; exact hr
  | .str s, V, h, hr => hr
  | .nilIface, V, h, hr => hr
  | .agg l, V, h, hr => by obtain ⟨vs, e, rfl⟩ := hr; exact ⟨vs, RepL.sub hhi (by simpa [SV.plain] using h) e, rfl⟩
  | .tuple l, V, h, hr => by obtain ⟨vs, e, rfl⟩ := hr; exact ⟨vs, RepL.sub hhi (by simpa [SV.plain] using h) e, rfl⟩
  | .ptr _, v, h, hr | .slice .., v, h, hr | .func .., v, h, hr | .nilFunc, v, h, hr | .iface .., v, h, hr | .nilMap, v, h, hr => by cases h
theorem RepL.sub (hhi : ∀ i, n ≤ i → env'.v i = (σ (i - n)).den env) {ρ : Pl} : ∀ {l : List SV} {Vs : List Value}, SV.plainL l = true → RepL env' ρ l Vs → RepL env ρ (SV.subL n σ l) Vs
  | [], Vs, h, hr => hr
  | s :: l, Vs, h, hr => by
      simp only [SV.plainL, Bool.and_eq_true] at h
      obtain ⟨v, vs', e1, e2, rfl⟩ := hr
      exact ⟨v, vs', Rep.sub hhi h.1 e1, RepL.sub hhi h.2 e2, rfl⟩
end
end

section
variable {n : Nat} {σ : Nat → E} {env env' : Env} (hf : env'.f = env.f) (hlo : ∀ i, i < n → env'.v i = env.v i)
include hf hlo
mutual
theorem Rep.subF (hhi : ∀ i, n ≤ i → env'.v i = (σ (i - n)).den env) {ρ : Pl} : ∀ {s : SV} {V : Value}, s.fix = true → Rep env' ρ s V → Rep env ρ (s.sub n σ) V
  | .int k e, V, h, hr => by simp only [SV.sub, Rep, E.sub_den hf hlo hhi] at hr ⊢; exact hr
  | .bool b, V, h, hr => by simp only [SV.sub, Rep, BE.sub_den hf hlo hhi] at hr ⊢; exact hr
  | .str s, V, h, hr => hr
  | .nilIface, V, h, hr => hr
  | .ptr a, V, h, hr => fixP_env (by simpa [SV.fix] using h) hr
  | .agg l, V, h, hr => by obtain ⟨vs, e, rfl⟩ := hr; exact ⟨vs, RepL.subF hhi (by simpa [SV.fix] using h) e, rfl⟩
  | .tuple l, V, h, hr => by obtain ⟨vs, e, rfl⟩ := hr; exact ⟨vs, RepL.subF hhi (by simpa [SV.fix] using h) e, rfl⟩
  | .slice .., v, h, hr | .func .., v, h, hr | .nilFunc, v, h, hr | .iface .., v, h, hr | .nilMap, v, h, hr | .any, v, h, hr | .vsl .., v, h, hr | .vg .., v, h, hr => by cases h
theorem RepL.subF (hhi : ∀ i, n ≤ i → env'.v i = (σ (i - n)).den env) {ρ : Pl} : ∀ {l : List SV} {Vs : List Value}, SV.fixL l = true → RepL env' ρ l Vs → RepL env ρ (SV.subL n σ l) Vs
  | [], Vs, h, hr => hr
  | s :: l, Vs, h, hr => by
      simp only [SV.fixL, Bool.and_eq_true] at h
      obtain ⟨v, vs', e1, e2, rfl⟩ := hr
      exact ⟨v, vs', Rep.subF hhi h.1 e1, RepL.subF hhi h.2 e2, rfl⟩
end
end

theorem atL_den (env : Env) (es : List E) (j : Nat) : (atL es j).den env = (denL env es).getD j 0 := by
  induction es generalizing j with
  | nil => simp [atL, denL, E.den]
  | cons e es ih =>
    cases j with
    | zero => simp [atL, denL]
    | succ j => simp only [denL, List.getD_cons_succ]; rw [← ih j]; simp [atL]

theorem sub_at {n : Nat} {env : Env} {es : List E} (b : BE) : (b.sub n (atL es)).den env = b.den (env.upd n (denL env es)) :=
  BE.sub_den (n := n) (σ := atL es) (env := env) (env' := env.upd n (denL env es)) rfl (fun i hi => by simp [Env.upd, hi]) (fun i hi => by rw [atL_den]; simp only [Env.upd]; rw [if_neg (by omega)]) b
theorem subE_at {n : Nat} {env : Env} {es : List E} (e : E) : (e.sub n (atL es)).den env = e.den (env.upd n (denL env es)) :=
  E.sub_den (n := n) (σ := atL es) (env := env) (env' := env.upd n (denL env es)) rfl (fun i hi => by simp [Env.upd, hi]) (fun i hi => by rw [atL_den]; simp only [Env.upd]; rw [if_neg (by omega)]) e

/-! ### the rounds -/

def CT.ev (env : Env) : CT → Option (Nat × List Int)
  | .again es => some (0, denL env es)
  | .exit j es => some (j + 1, denL env es)
  | .ite c t e => bif c.den env then t.ev env else e.ev env
  | .need c t => bif c.den env then t.ev env else none
  | .fail => none

theorem CT.same_eq : ∀ {a b : CT}, a.same b = true → a = b
  | .again l, b, h => by cases b <;> simp only [CT.same] at h <;> first | (rw [sameL_eq h]) | cases h
  | .exit j l, b, h => by
      cases b <;> simp only [CT.same] at h <;> try (cases h; done)
      simp only [Bool.and_eq_true, beq_dec, decide_eq_true_eq] at h
      rw [h.1, sameL_eq h.2]
  | .ite c t e, b, h => by
      cases b <;> simp only [CT.same] at h <;> try (cases h; done)
      simp only [Bool.and_eq_true] at h
      rw [BE.same_eq h.1.1, CT.same_eq h.1.2, CT.same_eq h.2]
  | .need c t, b, h => by
      cases b <;> simp only [CT.same] at h <;> try (cases h; done)
      simp only [Bool.and_eq_true] at h
      rw [BE.same_eq h.1, CT.same_eq h.2]
  | .fail, b, h => by cases b <;> simp only [CT.same] at h <;> first | rfl | cases h

theorem toCT_at {env : Env} : ∀ {t : PT} {c : Nat} {xs : List Int}, (toCT t).ev env = some (c, xs) → ∃ v cx s es, t.at env = some (.val v cx, s) ∧ decL v = some (c, es) ∧ denL env es = xs
  | .leaf (.val v cx) s, c, xs, h => by
      simp only [toCT] at h
      split at h
      · rename_i es he
        simp only [CT.ev, Option.some.injEq, Prod.mk.injEq] at h
        exact ⟨v, cx, s, es, rfl, by rw [he, h.1], h.2⟩
      · rename_i j es he
        simp only [CT.ev, Option.some.injEq, Prod.mk.injEq] at h
        exact ⟨v, cx, s, es, rfl, by rw [he, ← h.1], h.2⟩
      · cases h
  | .ite b t e, c, xs, h => by
      simp only [toCT, CT.ev] at h
      simp only [PT.at]
      cases hb : b.den env with
      | true => rw [hb, cond_true] at h; simpa using toCT_at h
      | false => rw [hb, cond_false] at h; simpa using toCT_at h
  | .need b t, c, xs, h => by
      simp only [toCT, CT.ev] at h
      simp only [PT.at]
      cases hb : b.den env with
      | true => rw [hb, cond_true] at h; simpa using toCT_at h
      | false => rw [hb, cond_false] at h; cases h
  | .fail _, c, xs, h => by cases h
  | .leaf (.tms _ _) _, c, xs, h => by cases h

def HeadOK (env : Env) (L : LC) (xs : List Int) : Prop :=
  (∀ i lo hi, L.rngs[i]? = some (lo, hi) → lo ≤ (env.upd L.base xs).v (L.base + i) ∧ (env.upd L.base xs).v (L.base + i) ≤ hi) ∧ ∀ b, b ∈ L.facts → b.den (env.upd L.base xs) = true

inductive Runs (env : Env) (L : LC) : List Int → Nat → List Int → Prop where
  | exit {xs j ys} : HeadOK env L xs → L.ct.ev (env.upd L.base xs) = some (j + 1, ys) → Runs env L xs j ys
  | again {xs xs' j ys} : HeadOK env L xs → L.ct.ev (env.upd L.base xs) = some (0, xs') → Runs env L xs' j ys → Runs env L xs j ys

/-- the contract of a loop, over numbers alone -/
def LoopOK (env : Env) (L : LC) : Prop := ∀ xs, xs.length = L.n → HeadOK env L xs → (∀ b, b ∈ L.pre → b.den (env.upd L.base xs) = true) →
  ∃ j ys x, Runs env L xs j ys ∧ L.exits[j]? = some x ∧ env.f L.K (xs ++ denL env L.ex) = (j : Int) ∧ (∀ i, i < x.n → env.f (L.K + 1 + i) (xs ++ denL env L.ex) = ys.getD i 0) ∧
    (∀ b, b ∈ L.post → b.den (env.upd L.base xs) = true) ∧ ∀ e lo hi, (e, lo, hi) ∈ L.prng → lo ≤ e.den (env.upd L.base xs) ∧ e.den (env.upd L.base xs) ≤ hi

end Go.SX

namespace Go.SX
open Go Go.RowKit
set_option linter.unusedVariables false
set_option linter.unusedSimpArgs false
set_option linter.unusedSectionVars false

def RdS (ρ : Pl) : Option Nat → Option Nat → Prop
  | none, r => r = none
  | some l, r => ∃ x o, ρ l = some (x, o) ∧ r = some x

def DfS (ρ : Pl) : List Nat → List Deferred → Prop
  | [], ds => ds = []
  | d :: l, ds => ∃ r o ds', ρ d = some (r, o) ∧ DfS ρ l ds' ∧ ds = { target := .collected r, args := #[] } :: ds'

theorem RdS.mono {ρ ρ' : Pl} (h : ρ.le ρ') {a b : Option Nat} (hr : RdS ρ a b) : RdS ρ' a b := by
  cases a with
  | none => exact hr
  | some l => obtain ⟨x, o, e, rfl⟩ := hr; exact ⟨x, o, h _ _ e, rfl⟩

theorem DfS.mono {ρ ρ' : Pl} (h : ρ.le ρ') : ∀ {a : List Nat} {b : List Deferred}, DfS ρ a b → DfS ρ' a b
  | [], b, hr => hr
  | d :: l, b, hr => by obtain ⟨r, o, ds', e, e2, rfl⟩ := hr; exact ⟨r, o, ds', h _ _ e, DfS.mono h e2, rfl⟩

def Leaves (tail : List Item) : Option Code → List Item → Prop
  | none, todo => todo = tail
  | some .ret, todo => ∃ k, todo = .code .ret :: k
  | some (.exit id), todo => ∃ k, todo = .code (.exit id) :: (k ++ tail) ∧ exitTo id k = none
  | _, _ => False

theorem exitTo_app {id : Nat} : ∀ {k k' tail : List Item}, exitTo id k = some k' → exitTo id (k ++ tail) = some (k' ++ tail)
  | [], k', tail, h => by cases h
  | i :: k, k', tail, h => by
      cases i with
      | inBlock id' =>
        simp only [exitTo, List.cons_append] at h ⊢
        split at h
        · rename_i he; rw [if_pos he]; cases h; rfl
        · rename_i he; rw [if_neg he]; exact exitTo_app h
      | _ => simp only [exitTo, List.cons_append] at h ⊢; exact exitTo_app h
theorem exitTo_none {id : Nat} : ∀ {k tail : List Item}, exitTo id k = none → exitTo id (k ++ tail) = exitTo id tail
  | [], tail, h => rfl
  | i :: k, tail, h => by
      cases i with
      | inBlock id' =>
        simp only [exitTo, List.cons_append] at h ⊢
        split at h
        · cases h
        · rename_i he; rw [if_neg he]; exact exitTo_none h
      | _ => simp only [exitTo, List.cons_append] at h ⊢; exact exitTo_none h

def FrOK (P : Program) (env : Env) (B : Nat) (R : Run) : Prop :=
  ∀ (F : FI) (todo : List Item) (tm : T SV) (df : List Nat) (cx : Ctx) (K : Res → Tree) (s : St) (r : Out × St), runE env (R (.fr F todo tm df cx) K) s = some r → cx.ok env →
    ∀ (ρ : Pl) (rd : Option Nat) (dfs : List Deferred) (tmps : Array Value) (w : World), RdS ρ F.rd rd → DfS ρ df dfs → TS env ρ tm tmps → tmps.size = F.nt → HS env ρ B s.h w → ∀ cs tail,
      ∃ j tm' df' cx' s' ρ' dfs' tmps' w' todo', runE env (K (.left j tm' df' cx')) s' = some r ∧ cx'.ok env ∧ ρ.le ρ' ∧ DfS ρ' df' dfs' ∧ TS env ρ' tm' tmps' ∧ tmps'.size = F.nt ∧ HS env ρ' B s'.h w' ∧ Below B w w' ∧
        Leaves tail j todo' ∧ Steps P (lone (mkF F.fn rd tmps dfs (todo ++ tail)) cs w) (lone (mkF F.fn rd tmps' dfs' todo') cs w')

/-- a book of calls, each proved -/
def BookOK (P : Program) (env : Env) (Bk : Book) : Prop :=
  ∀ f args cx sm, Bk f args cx = some sm → cx.ok env → (∀ b, b ∈ sm.needs → b.den env = true) → ∀ (ρ : Pl) (vs : List Value) (w : World), RepL env ρ args vs →
    (∀ b l, (b, l) ∈ sm.blks → ∃ r o, ρ b = some (r, o) ∧ BS env ρ (w.heap[r]?) o (.ro l)) →
    (∀ b sig F N, (b, sig, F, N) ∈ sm.arrs → ∃ r o, ρ b = some (r, o) ∧ ((Blk.arr sig F [] N).void env o = false → BS env ρ (w.heap[r]?) o (.arr sig F [] N))) →
    (callFunc f vs.toArray).run P w = .ok (.enter f vs.toArray) w ∧ (∀ b, b ∈ sm.facts → b.den env = true) ∧ (∀ e lo hi, (e, lo, hi) ∈ sm.rngs → lo ≤ e.den env ∧ e.den env ≤ hi) ∧
    Calls P f vs.toArray w fun e w' => ∃ V, e = .returned V ∧ Rep env ρ sm.v V ∧ Below w.heap.size w w'

/-- trees that stand for calls, each proved -/
def GenOK (P : Program) (env : Env) (G : Gen) : Prop :=
  ∀ f args cx g, G f args cx = some g → cx.ok env → ∀ (B : Nat) (K : SV → Ctx → Tree) (s : St) (r : Out × St), runE env (g K) s = some r → ∀ (ρ : Pl) (vs : List Value) (w : World), RepL env ρ args vs → HS env ρ B s.h w → ∀ cs, ∃ v cx' s' ρ' V w' fr',
    runE env (K v cx') s' = some r ∧ cx'.ok env ∧ ρ.le ρ' ∧ Rep env ρ' v V ∧ HS env ρ' B s'.h w' ∧ Below B w w' ∧
    (callFunc f vs.toArray).run P w = .ok (.enter f vs.toArray) w ∧ Steps P (lone (Frame.enter P f vs.toArray .normal) cs w) (lone fr' cs w') ∧ fr'.fn = f ∧ fr'.leaving P w' (.returned V)
theorem noGen_ok (P : Program) (env : Env) : GenOK P env noGen := by intro f args cx g h; cases h

theorem noBook_ok (P : Program) (env : Env) : BookOK P env noBook := by intro f args cx sm h; cases h

section moves
variable {P : Program} {fn : Nat} {rd : Option Nat} {tmps : Array Value} {df : List Deferred} {k : List Item} {cs : List Frame} {w : World}

theorem st_beginRound {l : Nat} {w' : World} (h : (Instr.beginRound l).run P w = .ok () w') :
    step P (lone (mkF fn (some l) tmps df (.beginRound :: k)) cs w) = .next (lone (mkF fn (some l) tmps df k) cs w') :=
  step_lone_go (by simp [stepG, stepG.exec, stepG.apply, mkF, Sem.runT_eq, h, Result.andThen, Frame.finish])

theorem st_endRange {l : Nat} {jump : Option Code} {w' : World} (h : (Instr.endLoop l).run P w = .ok jump w') :
    step P (lone (mkF fn rd tmps df (.endRangeFunc l :: k)) cs w) = .next (lone (mkF fn rd tmps df ((jump.map Item.code).toList ++ k)) cs w') :=
  step_lone_go (by simp [stepG, stepG.exec, mkF, Sem.runT_eq, h, GStep.bare_after])

theorem st_range {g : Operand} {ps : Array Tmp} {assign body : Code} {l : Nat} {mark : List Deferred} {w₁ : World}
    (he : (Instr.enterLoop fn tmps ps assign body rd).run P w = .ok (l, mark) w₁) {f : FuncId} {args : Array Value}
    (hs : (do let d ← Go.resolve (actOf tmps).eval { callee := .value g, args := #[.const (.func (.yield l) #[] #[])], argTypes := #[] } 0; invoke d.target d.args : Sem Next).run P w₁ = .ok (.enter f args) w₁) :
    step P (lone (mkF fn rd tmps df (.code (.rangeFunc g ps assign body) :: k)) cs w) = .next (lone (Frame.enter P f args .normal) (mkF fn rd tmps (mark ++ df) (.inRangeFunc l :: k) :: cs) w₁) :=
  step_lone_go (by
    have hev := eval_mkF' (fn := fn) (rd := rd) (tmps := tmps) (df := mark ++ df) (.inRangeFunc l :: k)
    simp only [mkF] at hev
    simp only [Sem.run_bind] at hs
    simp [stepG, stepG.exec, mkF, Sem.runT_eq, he, GStep.bare_after, stepG.apply, hev, Sem.run_bind, hs])

theorem st_rangeRound {g : Operand} {ps : Array Tmp} {assign body : Code} {l : Nat} {mark : List Deferred} {w₁ : World}
    (he : (Instr.enterLoop fn tmps ps assign body rd).run P w = .ok (l, mark) w₁) {l' f : Nat} {ts : Array Value} {a b : Code}
    (hs : (do let d ← Go.resolve (actOf tmps).eval { callee := .value g, args := #[.const (.func (.yield l) #[] #[])], argTypes := #[] } 0; invoke d.target d.args : Sem Next).run P w₁ = .ok (.round l' f ts a b) w₁) :
    step P (lone (mkF fn rd tmps df (.code (.rangeFunc g ps assign body) :: k)) cs w) = .next (lone (Frame.round l' f ts a b .normal) (mkF fn rd tmps (mark ++ df) (.inRangeFunc l :: k) :: cs) w₁) :=
  step_lone_go (by
    have hev := eval_mkF' (fn := fn) (rd := rd) (tmps := tmps) (df := mark ++ df) (.inRangeFunc l :: k)
    simp only [mkF] at hev
    simp only [Sem.run_bind] at hs
    simp [stepG, stepG.exec, mkF, Sem.runT_eq, he, GStep.bare_after, stepG.apply, hev, Sem.run_bind, hs])

/-- a function's frame leaves -/
theorem st_leave {j : Option Code} (hj : j = none ∨ j = some .ret) {todo : List Item} (hl : Leaves [] j todo) :
    step P (lone (mkF fn none tmps df todo) cs w) = .next (lone { mkF fn none tmps df todo with mode := .returning } cs w) := by
  rcases hj with rfl | rfl
  · rw [show todo = [] from hl]
    exact step_lone_go (by simp [stepG, stepG.exec, mkF])
  · obtain ⟨k, rfl⟩ := hl
    exact step_lone_go (by simp [stepG, stepG.exec, mkF])

/-- a round leaves -/
theorem st_leaveRound {l : Nat} {j : Option Code} {todo : List Item} (hl : Leaves [] j todo) {V : Value} {w' : World} (he : (Instr.endRound l j).run P w = .ok V w') {c : Frame} :
    step P (lone (mkF fn (some l) tmps df todo) (c :: cs) w) = .next (lone (c.finish V) cs w') := by
  cases j with
  | none =>
    rw [show todo = [] from hl]
    exact step_lone_go (by simp [stepG, stepG.exec, mkF, Sem.runT_eq, he, doReturn])
  | some co =>
    cases co <;> first
      | exact hl.elim
      | (obtain ⟨k, rfl⟩ := hl; exact step_lone_go (by simp [stepG, stepG.exec, mkF, Sem.runT_eq, he, doReturn]))
      | (obtain ⟨k, rfl, hx⟩ := hl; rw [List.append_nil]; exact step_lone_go (by simp [stepG, stepG.exec, mkF, hx, Sem.runT_eq, he, doReturn]))
end moves

/-! ### writing an object that is no row of cells -/

theorem putObj_other (w : World) (r k : Nat) (o : Obj) (h : k ≠ r) : (w.putObj r o).heap[k]? = w.heap[k]? := by
  simp [World.putObj, Array.getElem?_setIfInBounds_ne (Ne.symm h)]
theorem putObj_same (w : World) (r : Nat) (o : Obj) (h : r < w.heap.size) : (w.putObj r o).heap[r]? = some o := by
  simp [World.putObj, h]
theorem putObj_size (w : World) (r : Nat) (o : Obj) : (w.putObj r o).heap.size = w.heap.size := by simp [World.putObj]
theorem putObj_below {B : Nat} (w : World) {r : Nat} (o : Obj) (h : B ≤ r) : Below B w (w.putObj r o) :=
  ⟨rfl, rfl, rfl, by rw [putObj_size]; exact Nat.le_refl _, fun k hk => putObj_other w r k o (by omega)⟩

theorem HS.putLoop {env : Env} {ρ : Pl} {B : Nat} {h : T Blk} {w : World} (hs : HS env ρ B h w) {b : Nat} {L L' : LoopB} (hg : h.get b = some (.loop L)) (f : Loop → Loop)
    (hf : ∀ lp, LoopS env ρ L lp → LoopS env ρ L' (f lp)) :
    ∃ r o lp, ρ b = some (r, o) ∧ w.heap[r]? = some (.loop lp) ∧ LoopS env ρ L lp ∧ HS env ρ B (h.set b (.loop L')) (w.putObj r (.loop (f lp))) ∧ Below B w (w.putObj r (.loop (f lp))) := by
  obtain ⟨r, o, e, hbs, hown, _⟩ := hs.at b _ hg (fun _ => rfl)
  obtain ⟨lp, hob, hl⟩ := hbs
  have hlt := hs.lt e hg rfl
  refine ⟨r, o, lp, e, hob, hl, ?_, putObj_below w _ (hown rfl)⟩
  refine hs.put hg rfl rfl e (putObj_size w r _) (fun k hk => putObj_other w r k _ hk) ?_
  rw [putObj_same w r _ hlt]
  exact ⟨_, rfl, hf lp hl⟩

/-! ### small parts -/

def resM (tmps : Array Value) : ResultVar → Sem Value
  | .tmp t => pure (tmps.getD t undef)
  | .cell a t => do loadVar t (← asAddr (tmps.getD a undef))

def oneV : List Value → Value
  | [v] => v
  | l => .tuple l.toArray

section
variable {P : Program} {env : Env} {B : Nat}

theorem TS.setL {ρ : Pl} : ∀ (l : List SV) (i : Nat) (tm : T SV) (tmps : Array Value), TS env ρ tm tmps → (∀ (j : Nat) (s : SV), l[j]? = some s → ∃ v, tmps[i + j]? = some v ∧ Rep env ρ s v) → TS env ρ (Go.SX.setL tm i l) tmps
  | [], i, tm, tmps, ht, _ => ht
  | x :: l, i, tm, tmps, ht, h => by
      refine TS.setL l (i + 1) (tm.set i x) tmps ?_ (fun j s e => by rw [show i + 1 + j = i + (j + 1) by omega]; exact h (j + 1) s (by simpa using e))
      intro t s e
      rw [T.get_set] at e
      split at e
      · rename_i hti
        subst hti
        cases e
        exact h 0 x (by simp)
      · exact ht t s e

theorem setP_ok {F : FI} {ρ : Pl} : ∀ {ps : List Nat} {vs : List SV} {us : List Value} {tm : T SV} {tmps : Array Value} {k : T SV → Tree} {s : St} {r : Out × St}, runE env (setP F tm ps vs k) s = some r → RepL env ρ vs us →
    TS env ρ tm tmps → tmps.size = F.nt → ∃ tm', runE env (k tm') s = some r ∧ TS env ρ tm' ((ps.zip us).foldl (fun t (p : Nat × Value) => t.setIfInBounds p.1 p.2) tmps) ∧
      ((ps.zip us).foldl (fun t (p : Nat × Value) => t.setIfInBounds p.1 p.2) tmps).size = F.nt ∧ ps.length = us.length
  | [], [], us, tm, tmps, k, s, r, h, hr, ht, hn => by rw [show us = [] from hr]; exact ⟨tm, h, ht, hn, rfl⟩
  | [], v :: vs, us, tm, tmps, k, s, r, h, hr, ht, hn => (runE_fail h).elim
  | p :: ps, [], us, tm, tmps, k, s, r, h, hr, ht, hn => (runE_fail h).elim
  | p :: ps, v :: vs, us, tm, tmps, k, s, r, h, hr, ht, hn => by
      obtain ⟨u, us', hu, hus, rfl⟩ := hr
      simp only [setP] at h
      obtain ⟨hd, h⟩ := setTm_ok h
      obtain ⟨ht2, hn2⟩ := ht.putT (F := F) hn hd hu
      obtain ⟨tm', g1, g2, g3, g4⟩ := setP_ok h hus ht2 hn2
      exact ⟨tm', g1, g2, g3, by simp [g4]⟩

theorem takeD_ok {ρ : Pl} {t : Tree} {r : Out × St} : ∀ {df : List Nat} {dfs : List Deferred} {s : St} {w : World} (fr : Frame) (cs : List Frame), runE env (takeD df t) s = some r → DfS ρ df dfs → HS env ρ B s.h w →
    fr.mode ≠ .run → fr.defers = dfs → ∃ s' w', runE env t s' = some r ∧ HS env ρ B s'.h w' ∧ Below B w w' ∧ Steps P (lone fr cs w) (lone { fr with defers := [] } cs w')
  | [], dfs, s, w, fr, cs, h, hd, hs, hm, hf => by
      rw [show dfs = [] from hd] at hf
      refine ⟨s, w, h, hs, Below.refl _ _, ?_⟩
      have : fr = { fr with defers := [] } := by cases fr; simp at hf; subst hf; rfl
      rw [← this]
      exact .refl _ _
  | d :: df, dfs, s, w, fr, cs, h, hd, hs, hm, hf => by
      obtain ⟨rr, oo, ds', e, hd', rfl⟩ := hd
      simp only [takeD] at h
      obtain ⟨b, hg, _, h⟩ := runE_get h
      split at h
      · obtain ⟨u, hu, _, h⟩ := runE_set h
        obtain ⟨r2, o2, e2, hbs, hown, _⟩ := hs.at d _ hg (fun _ => rfl)
        rw [e] at e2
        cases e2
        have hob : w.heap[rr]? = some (.deferred (some [])) := hbs
        have hlt := hs.lt e hg rfl
        have hs2 : HS env ρ B (s.h.set d (.dfr true)) (w.putObj rr (.deferred none)) :=
          hs.put hg rfl rfl e (putObj_size w rr _) (fun k hk => putObj_other w rr k _ hk) (by rw [putObj_same w rr _ hlt]; rfl)
        have hst := step_collected (P := P) (cs := cs) (w := w) hm hf rfl (run_takeDeferred hob)
        obtain ⟨s', w', g1, g2, g3, g4⟩ := takeD_ok { fr with defers := [] ++ ds' } cs h hd' (by rw [St.put_h, St.touch_h]; exact hs2) hm (by simp)
        exact ⟨s', w', g1, g2, (putObj_below w _ (hown rfl)).trans g3, .head hst g4⟩
      · exact (runE_fail h).elim

theorem retVal_ok {ρ : Pl} {tm : T SV} {tmps : Array Value} {w : World} {r : Out × St} (ht : TS env ρ tm tmps) : ∀ {rs : List ResultVar} {cx : Ctx} {k : List SV → Ctx → Tree} {s : St}, runE env (retVal P cx tm rs k) s = some r → cx.ok env → HS env ρ B s.h w →
    ∃ vs us cx' s', runE env (k vs cx') s' = some r ∧ cx'.ok env ∧ s'.h = s.h ∧ RepL env ρ vs us ∧
      (rs.mapM (resM tmps)).run P w = .ok us w
  | [], cx, k, s, h, hc, hs => ⟨[], [], cx, s, h, hc, rfl, rfl, by simp⟩
  | .tmp t :: rs, cx, k, s, h, hc, hs => by
      simp only [retVal] at h
      split at h
      · rename_i v hv
        obtain ⟨V, hV, hr⟩ := ht t v hv
        obtain ⟨vs, us, cx', s', g1, g2, g3, g4, g5⟩ := retVal_ok ht h hc hs
        refine ⟨v :: vs, V :: us, cx', s', g1, g2, g3, ⟨V, us, hr, g4, rfl⟩, ?_⟩
        have hget : tmps.getD t undef = V := by simp [Array.getD_eq_getD_getElem?, hV]
        have h1 : (resM tmps (.tmp t)).run P w = .ok V w := by simp only [resM, Sem.run_pure, hget]
        simp only [List.mapM_cons, Sem.run_bind, Sem.run_pure, Result.andThen_ok, h1, g5]
      · exact (runE_fail h).elim
  | .cell a t :: rs, cx, k, s, h, hc, hs => by
      simp only [retVal] at h
      split at h
      · rename_i A hA
        obtain ⟨V0, hV0, hr0⟩ := ht a _ hA
        obtain ⟨A', hA', rfl⟩ := hr0
        obtain ⟨A0, hA0, rfl⟩ := hA'
        obtain ⟨v, V, cx1, s1, h, hc1, hh, hr, hrun⟩ := loadT_ok (P := P) h hc hs hA0
        obtain ⟨vs, us, cx', s', g1, g2, g3, g4, g5⟩ := retVal_ok (w := w) ht h hc1 (by rw [hh]; exact hs)
        refine ⟨v :: vs, V :: us, cx', s', g1, g2, g3.trans hh, ⟨V, us, hr, g4, rfl⟩, ?_⟩
        have hget : tmps.getD a undef = .pointer (some A0) := by simp [Array.getD_eq_getD_getElem?, hV0]
        have h1 : (resM tmps (.cell a t)).run P w = .ok V w := by simp only [resM, Sem.run_bind, Sem.run_pure, Result.andThen_ok, hget, asAddr, hrun]
        simp only [List.mapM_cons, Sem.run_bind, Sem.run_pure, Result.andThen_ok, h1, g5]
      · exact (runE_fail h).elim

theorem results_run {fn : Func} {tmps : Array Value} {us : List Value} {w : World} (h : (fn.results.toList.mapM (resM tmps)).run P w = .ok us w) : (results fn tmps).run P w = .ok (oneV us) w := by
  have e : results fn tmps = (do let vs ← fn.results.mapM (resM tmps); pure (if h : vs.size = 1 then vs[0] else .tuple vs) : Sem Value) := by
    unfold results
    have : (fun x => resM tmps x) = (fun (x : ResultVar) => match x with
        | .tmp t => (pure (tmps.getD t undef) : Sem Value)
        | .cell a t => do loadVar t (← asAddr (tmps.getD a undef))) := by funext x; cases x <;> rfl
    rw [show resM tmps = _ from this]
    rfl
  rw [e, Array.mapM_eq_mapM_toList]
  simp only [Sem.run_bind, Sem.run_map]
  rw [h]
  simp only [Result.andThen_ok, Sem.run_pure]
  congr 1
  match us with
  | [] => rfl
  | [v] => rfl
  | a :: b :: l => simp [oneV]

theorem oneOf_rep {ρ : Pl} : ∀ {vs : List SV} {us : List Value}, RepL env ρ vs us → Rep env ρ (oneOf vs) (oneV us)
  | [], us, h => by rw [show us = [] from h]; exact ⟨[], rfl, rfl⟩
  | [v], us, h => by
    obtain ⟨u, us', hu, hus, rfl⟩ := h
    rw [show us' = [] from hus]
    exact hu
  | a :: b :: l, us, h => by
    obtain ⟨u, us', hu, hus, rfl⟩ := h
    obtain ⟨u2, us2, hu2, hus2, rfl⟩ := hus
    exact ⟨u :: u2 :: us2, ⟨u, _, hu, ⟨u2, us2, hu2, hus2, rfl⟩, rfl⟩, rfl⟩

theorem needAll_ok {k : Ctx → Tree} {s : St} {r : Out × St} : ∀ {l : List BE} {cx : Ctx}, runE env (needAll cx k l) s = some r → cx.ok env → (∀ b, b ∈ l → b.den env = true) ∧ ∃ cx', cx'.ok env ∧ runE env (k cx') s = some r
  | [], cx, h, hc => ⟨by simp, cx, hc, h⟩
  | b :: l, cx, h, hc => by
      simp only [needAll] at h
      obtain ⟨h1, cx1, hc1, h⟩ := need_ok h hc
      obtain ⟨h2, cx', hc', h⟩ := needAll_ok h hc1
      refine ⟨fun x hx => ?_, cx', hc', h⟩
      rcases List.mem_cons.1 hx with rfl | hx
      · exact h1
      · exact h2 x hx

/-- an object whose cells are known may be read -/
theorem BS.ro_of {env : Env} {ρ : Pl} {ob : Option Obj} {o : Nat} {l : List SV} : (∀ t, BS env ρ ob o (.cells l t) → BS env ρ ob o (.ro l)) := by
  rintro t ⟨rfl, cs, hr, e⟩
  exact ⟨_, t, (0, 0), cs, e, hr, fun i v h => by simpa using h⟩

theorem needBlks_ok {ρ : Pl} {w : World} {t : Tree} {r : Out × St} : ∀ {l : List (Nat × List SV)} {s : St}, runE env (needBlks t l) s = some r → HS env ρ B s.h w →
    (∀ b x, (b, x) ∈ l → ∃ r o, (∃ o', ρ b = some (r, o')) ∧ BS env ρ (w.heap[r]?) o (.ro x) ∧ ρ b = some (r, o)) ∧ ∃ s', s'.h = s.h ∧ runE env t s' = some r
  | [], s, h, hs => ⟨fun b x hm => by simp at hm, s, rfl, h⟩
  | (b, x) :: l, s, h, hs => by
      simp only [needBlks] at h
      obtain ⟨blk, hg, _, h⟩ := runE_get h
      obtain ⟨r0, o, e, hbs0⟩ := hs.blk _ _ hg
      have key : ∀ l', BS env ρ (w.heap[r0]?) o (.ro l') → runE env (bif SV.sameL l' x then needBlks t l else .fail "memo block") (s.touch b) = some r →
          (∀ b' x', (b', x') ∈ (b, x) :: l → ∃ r o, (∃ o', ρ b' = some (r, o')) ∧ BS env ρ (w.heap[r]?) o (.ro x') ∧ ρ b' = some (r, o)) ∧ ∃ s', s'.h = s.h ∧ runE env t s' = some r := by
        intro l' hro h
        cases hsame : SV.sameL l' x with
        | false => rw [hsame] at h; exact (runE_fail h).elim
        | true =>
          rw [hsame, cond_true] at h
          rw [SV.sameL_eq hsame] at hro
          obtain ⟨h1, s', h2, h3⟩ := needBlks_ok h (by rw [St.touch_h]; exact hs)
          refine ⟨?_, s', by rw [h2, St.touch_h], h3⟩
          intro b' x' hm
          rcases List.mem_cons.1 hm with hm | hm
          · cases hm
            exact ⟨r0, o, ⟨o, e⟩, hro, e⟩
          · exact h1 b' x' hm
      split at h
      · exact key _ (BS.ro_of _ (hbs0 rfl).1) h
      · exact key _ (hbs0 rfl).1 h
      · exact (runE_fail h).elim

theorem assumeAll_ok : ∀ {l : List BE} {cx : Ctx}, cx.ok env → (∀ b, b ∈ l → b.den env = true) → (assumeAll cx l).ok env
  | [], cx, hc, _ => hc
  | b :: l, cx, hc, h => by
      simp only [assumeAll]
      exact assumeAll_ok (assume_ok hc (h b (by simp))) (fun x hx => h x (by simp [hx]))

theorem entered_ok {f : Nat} {fn : Func} {c : Code} (h : entered P f = some (fn, c)) (args : Array Value) (w : World) :
    P.funcs[f]? = some fn ∧ fn.body = some c ∧ (callFunc f args).run P w = .ok (.enter f args) w := by
  unfold entered at h
  split at h
  · rename_i fn' hf
    split at h
    · cases h
    · rename_i hname
      split at h
      · rename_i c' hb
        cases h
        refine ⟨hf, hb, ?_⟩
        simp only [callFunc, Sem.run_bind, run_program, Result.andThen_ok, hf]
        rw [if_neg hname, hb]
        simp
      · cases h
  · cases h
end

end Go.SX

namespace Go.SX
open Go Go.RowKit
set_option linter.unusedVariables false
set_option linter.unusedSimpArgs false
set_option linter.unusedSectionVars false

structure RowE where
  sig : List (Option IntKind)
  ty : TypeId
  c : E
  n : E
abbrev rowBlk (p : RowE) : Blk := .vec p.sig p.c p.n p.ty
def RowP.e (p : RowP) : RowE := ⟨p.sig, p.ty, .var p.c, .var p.n⟩
def RowP.out (σ : Nat → E) (base : Nat) (p : RowP) : RowE := ⟨p.sig, p.ty, σ (p.c - base), σ (p.n - base)⟩
def setRe (nx : Nat) : List RowE → T Blk → T Blk
  | [], h => h
  | p :: r, h => setRe (nx + 1) r (h.set nx (rowBlk p))
theorem setRw_e : ∀ {rows : List RowP} {nx : Nat} {h : T Blk}, setRw nx rows h = setRe nx (rows.map RowP.e) h
  | [], nx, h => rfl
  | p :: rows, nx, h => by simp only [setRw, List.map_cons, setRe]; exact setRw_e

/-- a place of a row: the object and the capacity; no object at all if both are 0 -/
def RowObj (env : Env) (w : World) (B : Nat) (p : RowE) (r c : Nat) : Prop :=
  VecOK env p.sig p.c p.n ∧ ((rowBlk p).void env c = false → BS env (fun _ => none) (w.heap[r]?) c (rowBlk p) ∧ B ≤ r)
def RowsOK (env : Env) (w : World) (B : Nat) : (Nat → Prop) → List RowE → List (Nat × Nat) → Prop
  | _, [], ps => ps = []
  | F, p :: rows, ps => ∃ r c ps', ps = (r, c) :: ps' ∧ RowObj env w B p r c ∧ ((rowBlk p).void env c = false → F r) ∧ RowsOK env w B (fun q => F q ∧ ((rowBlk p).void env c = false → q ≠ r)) rows ps'
theorem RowsOK.mono {env : Env} {w : World} {B : Nat} : ∀ {rows : List RowE} {ps : List (Nat × Nat)} {F G : Nat → Prop}, (∀ q, B ≤ q → F q → G q) → RowsOK env w B F rows ps → RowsOK env w B G rows ps
  | [], ps, F, G, h, hr => hr
  | p :: rows, ps, F, G, h, hr => by
      obtain ⟨r, c, ps', rfl, h1, h2, h3⟩ := hr
      exact ⟨r, c, ps', rfl, h1, fun hv => h r (h1.2 hv).2 (h2 hv), RowsOK.mono (fun q hq hf => ⟨h q hq hf.1, hf.2⟩) h3⟩
def plRw : Nat → List (Nat × Nat) → Pl → Pl
  | _, [], ρ => ρ
  | nx, p :: ps, ρ => plRw (nx + 1) ps (ρ.upd nx p.1 p.2)

theorem HS.addRow {env : Env} {ρ : Pl} {B : Nat} {h : T Blk} {w : World} (hs : HS env ρ B h w) {n : Nat} (hn : h.get n = none) {p : RowE} {r c : Nat} (ho : RowObj env w B p r c)
    (hd : (rowBlk p).void env c = false → ∀ b o, ρ b = some (r, o) → ¬ Solid env o (h.get b)) : HS env (ρ.upd n r c) B (h.set n (rowBlk p)) w := by
  have hle := hs.fresh hn r c
  refine ⟨?_, ?_, ?_, hs.size, ?_, hs.rows⟩
  · intro b u hbu
    rw [T.get_set] at hbu
    split at hbu
    · rename_i hbn
      subst hbn
      cases hbu
      exact ⟨r, c, by simp [Pl.upd], fun hv => ⟨(ho.2 hv).1, fun _ => (ho.2 hv).2, fun e => by cases e⟩⟩
    · obtain ⟨r', o, e, h1⟩ := hs.blk b u hbu
      exact ⟨r', o, hle _ _ e, fun hu => ⟨(h1 hu).1.mono hle, (h1 hu).2⟩⟩
  · intro b q e
    rw [T.get_set]
    split
    · simp
    · rename_i hbn
      simp only [Pl.upd, hbn, if_false] at e
      exact hs.dom b q e
  · intro b b' r1 o o' e e' hr hd1 hd2
    rw [T.get_set] at hd1 hd2
    simp only [Pl.upd] at e e'
    split at e <;> split at e'
    · omega
    · rename_i h1 h2
      cases e
      rw [if_pos h1] at hd1
      rw [if_neg h2] at hd2
      exact (hd hd1.void b' _ e' hd2).elim
    · rename_i h1 h2
      cases e'
      rw [if_pos h2] at hd2
      rw [if_neg h1] at hd1
      exact (hd hd2.void b _ e hd1).elim
    · rename_i h1 h2
      rw [if_neg h1] at hd1
      rw [if_neg h2] at hd2
      exact hs.inj b b' r1 o o' e e' hr hd1 hd2
  · intro b u hbu
    rw [T.get_set] at hbu
    split at hbu
    · cases hbu; exact ho.1
    · exact hs.wf b u hbu

theorem plRw_low {ps : List (Nat × Nat)} : ∀ {nx : Nat} {ρ : Pl} {b : Nat}, b < nx → plRw nx ps ρ b = ρ b := by
  induction ps with
  | nil => intros; rfl
  | cons p ps ih =>
    intro nx ρ b hb
    simp only [plRw]
    rw [ih (by omega)]
    simp [Pl.upd, show ¬ b = nx by omega]
theorem plRw_at {ps : List (Nat × Nat)} : ∀ {nx i : Nat} {ρ : Pl} {q : Nat × Nat}, ps[i]? = some q → plRw nx ps ρ (nx + i) = some q := by
  induction ps with
  | nil => intro nx i ρ q h; simp at h
  | cons p ps ih =>
    intro nx i ρ q h
    simp only [plRw]
    cases i with
    | zero =>
      simp at h
      subst h
      rw [plRw_low (by omega)]
      simp [Pl.upd]
    | succ i => rw [show nx + (i + 1) = nx + 1 + i by omega]; exact ih (by simpa using h)

/-- rows behind a store -/
theorem HS.addRows {env : Env} {B : Nat} {w : World} : ∀ {rows : List RowE} {ps : List (Nat × Nat)} {F : Nat → Prop} {nx : Nat} {ρ : Pl} {h : T Blk}, HS env ρ B h w → (∀ b, nx ≤ b → h.get b = none) →
    RowsOK env w B F rows ps → (∀ q, F q → B ≤ q → ∀ b o, ρ b = some (q, o) → ¬ Solid env o (h.get b)) → HS env (plRw nx ps ρ) B (setRe nx rows h) w ∧ ρ.le (plRw nx ps ρ)
  | [], ps, F, nx, ρ, h, hs, hn, hr, hF => by
      rw [show ps = [] from hr]
      exact ⟨hs, Pl.le_refl _⟩
  | p :: rows, ps, F, nx, ρ, h, hs, hn, hr, hF => by
      obtain ⟨r, c, ps', rfl, h1, h2, h3⟩ := hr
      have hs1 := hs.addRow (hn nx (Nat.le_refl _)) h1 (fun hv => hF r (h2 hv) (h1.2 hv).2)
      have hle := hs.fresh (hn nx (Nat.le_refl _)) r c
      obtain ⟨g1, g2⟩ := HS.addRows (nx := nx + 1) hs1 (fun b hb => by rw [T.get_set, if_neg (by omega)]; exact hn b (by omega)) h3 (fun q hq hB b o e hd => by
        rw [T.get_set] at hd
        simp only [Pl.upd] at e
        split at e
        · rename_i hb
          cases e
          rw [if_pos hb] at hd
          exact hq.2 hd.void rfl
        · rename_i hb
          rw [if_neg hb] at hd
          exact hF q hq.1 hB b o e hd)
      exact ⟨g1, Pl.le_trans hle g2⟩

theorem setRw_low : ∀ {rows : List RowP} {nx : Nat} {h : T Blk} {b : Nat}, b < nx → (setRw nx rows h).get b = h.get b
  | [], nx, h, b, hb => rfl
  | p :: rows, nx, h, b, hb => by
      simp only [setRw]
      rw [setRw_low (by omega), T.get_set, if_neg (by omega)]

theorem killL_get : ∀ {bs : List Nat} {h : T Blk} {b : Nat}, (killL bs h).get b = if b ∈ bs then some .dead else h.get b
  | [], h, b => by simp [killL]
  | c :: bs, h, b => by
      simp only [killL, T.get_set, killL_get (bs := bs)]
      by_cases hb : b = c
      · simp [hb]
      · simp [hb]
theorem HS.killL {env : Env} {ρ : Pl} {B : Nat} {w : World} : ∀ {bs : List Nat} {h : T Blk}, HS env ρ B h w → (∀ b, b ∈ bs → h.get b ≠ none) → HS env ρ B (killL bs h) w
  | [], h, hs, hb => hs
  | c :: bs, h, hs, hb => by
      have h1 := HS.killL (bs := bs) hs (fun b hm => hb b (by simp [hm]))
      cases hc : (Go.SX.killL bs h).get c with
      | none =>
        rw [killL_get] at hc
        split at hc
        · cases hc
        · exact absurd hc (hb c (by simp))
      | some v => exact h1.kill hc

/-! ### what is found in the slots -/

theorem rowAt_ok {env env' : Env} {ρ : Pl} {B : Nat} {h : T Blk} {w : World} (hs : HS env ρ B h w) {tm : T SV} {tmps : Array Value} (ht : TS env ρ tm tmps) {p : RowP} {b : Option Nat} {code N : E}
    (hr : rowAt tm h p = some (b, code, N)) (hc : env'.v p.c = code.den env) (hN : env'.v p.n = N.den env) :
    ∃ r c, RowObj env' w B p.e r c ∧ (∀ b', b = some b' → ρ b' = some (r, c) ∧ (∃ n, h.get b' = some (.vec p.sig code n p.ty) ∧ n.den env = N.den env)) ∧ (b = none → (rowBlk p.e).void env' c = true) ∧
      ∃ V, tmps[p.t]? = some V ∧ ∀ ρ2 nb, ρ2 nb = some (r, c) → Rep env' ρ2 (.vg nb (.var p.n)) V := by
  have hE : p.e.n.den env' = N.den env := hN
  have hE2 : (E.var p.n).den env' = N.den env := hN
  have hC : p.e.c.den env' = code.den env := hc
  unfold rowAt at hr
  split at hr
  · rename_i b0 N0 hg
    split at hr
    · rename_i sig code' N' ty hb
      split at hr
      · rename_i hcond
        obtain ⟨h1, h2, h3⟩ := hcond
        have hNN := E.same_eq h3
        simp only [Option.some.injEq, Prod.mk.injEq] at hr
        obtain ⟨hb0, hcd, hN'⟩ := hr
        rw [hNN, hN'] at hg
        rw [hN', hcd, h1, h2] at hb
        subst hb0
        obtain ⟨r, c, e, hbl⟩ := hs.blk b0 _ hb
        have hw : VecOK env p.sig code N := hs.wf b0 _ hb
        obtain ⟨V, hV, hrep⟩ := ht _ _ hg
        have hvd : (rowBlk p.e).void env' c = (Blk.vec p.sig code N p.ty).void env c := by simp only [Blk.void, hE]
        refine ⟨r, c, ⟨?_, fun hv => ?_⟩, ?_, ?_, V, hV, ?_⟩
        · unfold VecOK at hw ⊢
          rw [hE, hC]
          exact hw
        · rw [hvd] at hv
          obtain ⟨hbs, hown, _⟩ := hbl hv
          refine ⟨?_, hown rfl⟩
          obtain ⟨cur, q1, q2, q3, q4⟩ := hbs
          refine ⟨cur, q1, q2, ?_, ?_⟩
          · rw [hE]; exact q3
          · rw [hE, hC]; exact q4
        · intro b' hb'
          cases hb'
          exact ⟨e, N, hb, rfl⟩
        · intro hb'; cases hb'
        · intro ρ2 nb h2
          obtain ⟨r0, c0, e0, k1, k2, k3, k4⟩ := hrep
          rw [e] at e0
          cases e0
          refine ⟨r, c, h2, ?_, ?_, k3, ?_⟩
          · rw [hE2]; exact k1
          · rw [hE2]; exact k2
          · rw [hE2]; exact k4
      · cases hr
    · cases hr
  · rename_i hg
    split at hr
    · rename_i hl
      cases hr
      obtain ⟨V, hV, hrep⟩ := ht _ _ hg
      obtain ⟨A, c0, hA, hcap, _, hVe⟩ := hrep
      have hA' : A = none := hA
      have hc0 : c0 = 0 := by simpa [RepC, E.den] using hcap
      have hz : (E.app 1000 []).den env = enc [] := by
        show env.f 1000 [] = _
        rw [hs.rows 1000 [] (by omega) (by omega)]
        exact rowOp_lit []
      refine ⟨0, 0, ⟨?_, fun hv => ?_⟩, ?_, ?_, V, hV, ?_⟩
      · refine ⟨?_, hl, ?_, ?_⟩
        · rw [hE]; simp [E.den]
        · rw [hE, hC, hz]; simp [E.den, dec_enc]
        · intro i j kd hi
          rw [hE] at hi
          simp [E.den] at hi
          omega
      · exfalso
        simp only [Blk.void, hE] at hv
        simp [E.den] at hv
      · intro b' hb'; cases hb'
      · intro _
        simp only [Blk.void, hE]
        simp [E.den]
      · intro ρ2 nb h2
        subst hA' hc0
        refine ⟨0, 0, h2, ?_, ?_, ?_, ?_⟩
        · rw [hE2]; simp [E.den]
        · rw [hE2]; simp [E.den]
        · intro _; exact ⟨none, by rw [hVe]; simp [E.den]⟩
        · intro h; exact absurd rfl h
    · cases hr
  · cases hr

theorem addRn_ok {n0 : Nat} {b : Option Nat} {bs bs' : List Nat} (h : addRn n0 b bs = some bs') : (b = none ∧ bs' = bs) ∨ ∃ b0, b = some b0 ∧ bs' = b0 :: bs ∧ n0 ≤ b0 ∧ b0 ∉ bs := by
  unfold addRn at h
  split at h
  · cases h; exact .inl ⟨rfl, rfl⟩
  · rename_i b0
    cases hb : (Nat.ble n0 b0 && !(bs.any fun c => Nat.beq b0 c)) with
    | false => rw [hb, cond_false] at h; cases h
    | true =>
      rw [hb, cond_true] at h
      cases h
      simp only [Bool.and_eq_true, Nat.ble_eq, Bool.not_eq_true', List.any_eq_false] at hb
      refine .inr ⟨b0, rfl, rfl, hb.1, fun hm => ?_⟩
      have := hb.2 b0 hm
      simp at this

theorem matchR_ok {env env' : Env} {ρ : Pl} {B : Nat} {h : T Blk} {w : World} (hs : HS env ρ B h w) {tm : T SV} {tmps : Array Value} (ht : TS env ρ tm tmps) {n0 : Nat} : ∀ {rows : List RowP} {l l' : Asg} {bs : List Nat},
    matchR n0 tm h rows l = some (l', bs) → Asg.le l l' ∧ (∀ b, b ∈ bs → n0 ≤ b ∧ h.get b ≠ none) ∧ (AsgOK env env' l' → ∃ ps, RowsOK env' w B (fun q => ∀ b o, b ∉ bs → ρ b = some (q, o) → ¬ Solid env o (h.get b)) (rows.map RowP.e) ps ∧
      ∀ (i : Nat) (p : RowP), rows[i]? = some p → ∃ V q, tmps[p.t]? = some V ∧ ps[i]? = some q ∧ ∀ ρ2 nb, ρ2 nb = some q → Rep env' ρ2 (.vg nb (.var p.n)) V)
  | [], l, l', bs, hm => by
      cases hm
      exact ⟨Asg.le_refl _, by simp, fun _ => ⟨[], rfl, fun i p hp => by simp at hp⟩⟩
  | p :: rows, l, l', bs, hm => by
      simp only [matchR] at hm
      split at hm
      case h_2 => cases hm
      rename_i b code N hra
      split at hm
      case h_2 => cases hm
      rename_i l1 h1
      split at hm
      case h_2 => cases hm
      rename_i l2 h2
      split at hm
      case h_2 => cases hm
      rename_i l3 bs3 h3
      rw [Option.map_eq_some_iff] at hm
      obtain ⟨bs', hab, e⟩ := hm
      cases e
      obtain ⟨a1, a2⟩ := putA_ok h1
      obtain ⟨b1, b2⟩ := putA_ok h2
      obtain ⟨c1, c2, c3⟩ := matchR_ok hs ht h3
      refine ⟨Asg.le_trans a1 (Asg.le_trans b1 c1), ?_, fun hA => ?_⟩
      · rcases addRn_ok hab with ⟨_, rfl⟩ | ⟨b0, rfl, rfl, hn, _⟩
        · exact c2
        · intro b hbm
          rcases List.mem_cons.1 hbm with rfl | hbm
          · refine ⟨hn, ?_⟩
            obtain ⟨r, c, _, q2, _⟩ := rowAt_ok (env' := ⟨fun i => if i = p.c then code.den env else N.den env, env.f⟩) hs ht hra (by simp) (by
              simp only
              split
              · rename_i he
                have k1 := b2
                rw [he] at k1
                have k2 := b1 _ _ a2
                rw [k1] at k2
                cases k2
                rfl
              · rfl)
            obtain ⟨_, n, e, _⟩ := q2 b rfl
            rw [e]
            simp
          · exact c2 b hbm
      · obtain ⟨ps, r1, r2⟩ := c3 hA
        have k1 : env'.v p.c = code.den env := hA _ _ (c1 _ _ (b1 _ _ a2))
        have k2 : env'.v p.n = N.den env := hA _ _ (c1 _ _ b2)
        obtain ⟨r, c, q1, q2, q3, V, q4, q5⟩ := rowAt_ok (env' := env') hs ht hra k1 k2
        have hvn : ∀ n, n.den env = N.den env → (Blk.vec p.sig code n p.ty).void env c = (rowBlk p.e).void env' c := by
          intro n gn
          simp only [RowP.e, Blk.void, gn]
          show _ = (c == 0 && env'.v p.n == 0)
          rw [k2]
        refine ⟨(r, c) :: ps, ⟨r, c, ps, rfl, q1, ?_, ?_⟩, ?_⟩
        · intro hv b' o hb' hρ hsol
          rcases addRn_ok hab with ⟨hb0, _⟩ | ⟨b0, hb0, rfl, hn, hnb⟩
          · rw [q3 hb0] at hv; cases hv
          · obtain ⟨e0, n, g0, gn⟩ := q2 b0 hb0
            have := hs.inj b' b0 r o c hρ e0 (q1.2 hv).2 hsol (by rw [g0]; exact Solid.of (by rw [hvn n gn]; exact hv))
            subst this
            exact hb' (by simp)
        · rcases addRn_ok hab with ⟨hb0, rfl⟩ | ⟨b0, hb0, rfl, hn, hnb⟩
          · exact r1.mono (fun q _ hf => ⟨hf, fun hv => by rw [q3 hb0] at hv; cases hv⟩)
          · obtain ⟨e0, n, g0, gn⟩ := q2 b0 hb0
            refine r1.mono (fun q hq hf => ⟨fun b' o hb' => hf b' o (fun hm => hb' (by simp [hm])), fun hv he => ?_⟩)
            subst he
            refine hf b0 c hnb e0 ?_
            rw [g0]
            exact Solid.of (by rw [hvn n gn]; exact hv)
        · intro i p' hp
          cases i with
          | zero =>
            simp at hp
            subst hp
            exact ⟨V, (r, c), q4, by simp, q5⟩
          | succ i =>
            obtain ⟨V', q', v1, v2, v3⟩ := r2 i p' (by simpa using hp)
            exact ⟨V', q', v1, by simpa using v2, v3⟩

theorem RowsOK.congr {env env' : Env} {w : World} {B : Nat} {f g : RowP → RowE} : ∀ {rows : List RowP} {ps : List (Nat × Nat)} {F : Nat → Prop},
    (∀ p, p ∈ rows → (g p).sig = (f p).sig ∧ (g p).ty = (f p).ty ∧ (g p).c.den env' = (f p).c.den env ∧ (g p).n.den env' = (f p).n.den env) → RowsOK env w B F (rows.map f) ps → RowsOK env' w B F (rows.map g) ps
  | [], ps, F, h, hr => hr
  | p :: rows, ps, F, h, hr => by
      obtain ⟨r, c, ps', rfl, h1, h2, h3⟩ := hr
      obtain ⟨e1, e2, e3, e4⟩ := h p (by simp)
      have hv : (rowBlk (g p)).void env' c = (rowBlk (f p)).void env c := by simp only [Blk.void, e4]
      refine ⟨r, c, ps', rfl, ⟨?_, fun hvd => ?_⟩, fun hvd => h2 (by rw [← hv]; exact hvd), ?_⟩
      · have := h1.1
        unfold VecOK at this ⊢
        rw [e1, e3, e4]
        exact this
      · rw [hv] at hvd
        obtain ⟨⟨cur, q1, q2, q3, q4⟩, hB⟩ := h1.2 hvd
        refine ⟨⟨cur, ?_, ?_, ?_, ?_⟩, hB⟩
        · rw [e2]; exact q1
        · rw [e1]; exact q2
        · rw [e4]; exact q3
        · rw [e1, e3, e4]; exact q4
      · refine RowsOK.congr (fun p' hp => h p' (by simp [hp])) (h3.mono fun q _ hf => ⟨hf.1, fun hvd => hf.2 (by rw [← hv]; exact hvd)⟩)

theorem rowSl_mem : ∀ {rows : List RowP} {nx t : Nat} {s : SV}, (t, s) ∈ rowSl nx rows → ∃ i p, rows[i]? = some p ∧ t = p.t ∧ s = .vg (nx + i) (.var p.n)
  | [], nx, t, s, h => by simp [rowSl] at h
  | p :: rows, nx, t, s, h => by
      simp only [rowSl, List.mem_cons] at h
      rcases h with h | h
      · cases h; exact ⟨0, p, rfl, rfl, rfl⟩
      · obtain ⟨i, p', h1, h2, h3⟩ := rowSl_mem h
        exact ⟨i + 1, p', by simpa using h1, h2, by rw [h3, show nx + 1 + i = nx + (i + 1) by omega]⟩
theorem rowOut_mem {σ : Nat → E} {base : Nat} : ∀ {rows : List RowP} {nx t : Nat} {s : SV}, (t, s) ∈ rowOut σ base nx rows → ∃ i p, rows[i]? = some p ∧ t = p.t ∧ s = .vg (nx + i) (σ (p.n - base))
  | [], nx, t, s, h => by simp [rowOut] at h
  | p :: rows, nx, t, s, h => by
      simp only [rowOut, List.mem_cons] at h
      rcases h with h | h
      · cases h; exact ⟨0, p, rfl, rfl, rfl⟩
      · obtain ⟨i, p', h1, h2, h3⟩ := rowOut_mem h
        exact ⟨i + 1, p', by simpa using h1, h2, by rw [h3, show nx + 1 + i = nx + (i + 1) by omega]⟩
end Go.SX
