/- Loops whose outcome is what their rounds make of it: the meaning of a loop's functions, by going on round by round. -/
import Derived.Test.YtjgkcgkhcdeadaaSw29
namespace Go.SX
open Go
set_option linter.unusedVariables false
set_option linter.unusedSimpArgs false
set_option linter.unusedSectionVars false

/-! ### the same under other functions -/

mutual
def E.uses (p : Nat → Bool) : E → Bool
  | .lit _ | .var _ => true
  | .op _ a b | .bin _ _ a b | .cmp _ a b => a.uses p && b.uses p
  | .conv _ a => a.uses p
  | .app f l => p f && usesL p l
  | .ite c a b => c.uses p && (a.uses p && b.uses p)
def usesL (p : Nat → Bool) : List E → Bool
  | [] => true
  | e :: l => e.uses p && usesL p l
end
def BE.uses (p : Nat → Bool) : BE → Bool
  | .lit _ => true
  | .cmp _ a b => a.uses p && b.uses p
  | .neg b => b.uses p
  | .and a b | .eqb a b => a.uses p && b.uses p
  | .tst e => e.uses p
def CT.uses (p : Nat → Bool) : CT → Bool
  | .again es => usesL p es
  | .exit _ es => usesL p es
  | .ite c t e => c.uses p && (t.uses p && e.uses p)
  | .need c t => c.uses p && t.uses p
  | .fail => true

section
variable {v : Nat → Int} {f g : Nat → List Int → Int} {p : Nat → Bool} (hfg : ∀ k a, p k = true → f k a = g k a)
include hfg
mutual
theorem E.uses_den : ∀ {e : E}, e.uses p = true → e.den ⟨v, f⟩ = e.den ⟨v, g⟩
  | .lit _, _ => rfl
  | .var _, _ => rfl
  | .op o a b, h => by
      simp only [E.uses, Bool.and_eq_true] at h
      simp only [E.den, E.uses_den h.1, E.uses_den h.2]
  | .bin o k a b, h => by
      simp only [E.uses, Bool.and_eq_true] at h
      simp only [E.den, E.uses_den h.1, E.uses_den h.2]
  | .cmp o a b, h => by
      simp only [E.uses, Bool.and_eq_true] at h
      simp only [E.den, E.uses_den h.1, E.uses_den h.2]
  | .conv k a, h => by
      simp only [E.uses] at h
      simp only [E.den, E.uses_den h]
  | .app k l, h => by
      simp only [E.uses, Bool.and_eq_true] at h
      simp only [E.den, usesL_den h.2]
      exact hfg _ _ h.1
  | .ite c a b, h => by
      simp only [E.uses, Bool.and_eq_true] at h
      simp only [E.den, E.uses_den h.1, E.uses_den h.2.1, E.uses_den h.2.2]
theorem usesL_den : ∀ {l : List E}, usesL p l = true → denL ⟨v, f⟩ l = denL ⟨v, g⟩ l
  | [], _ => rfl
  | e :: l, h => by
      simp only [usesL, Bool.and_eq_true] at h
      simp only [denL, E.uses_den h.1, usesL_den h.2]
end
theorem BE.uses_den : ∀ {b : BE}, b.uses p = true → b.den ⟨v, f⟩ = b.den ⟨v, g⟩
  | .lit _, _ => rfl
  | .cmp o a b, h => by
      simp only [BE.uses, Bool.and_eq_true] at h
      simp only [BE.den, E.uses_den hfg h.1, E.uses_den hfg h.2]
  | .neg b, h => by
      simp only [BE.uses] at h
      simp only [BE.den, BE.uses_den h]
  | .and a b, h => by
      simp only [BE.uses, Bool.and_eq_true] at h
      simp only [BE.den, BE.uses_den h.1, BE.uses_den h.2]
  | .eqb a b, h => by
      simp only [BE.uses, Bool.and_eq_true] at h
      simp only [BE.den, BE.uses_den h.1, BE.uses_den h.2]
  | .tst e, h => by
      simp only [BE.uses] at h
      simp only [BE.den, E.uses_den hfg h]
theorem CT.uses_ev : ∀ {c : CT}, c.uses p = true → c.ev ⟨v, f⟩ = c.ev ⟨v, g⟩
  | .again es, h => by simp only [CT.uses] at h; simp only [CT.ev, usesL_den hfg h]
  | .exit j es, h => by simp only [CT.uses] at h; simp only [CT.ev, usesL_den hfg h]
  | .ite c t e, h => by
      simp only [CT.uses, Bool.and_eq_true] at h
      simp only [CT.ev, BE.uses_den hfg h.1, CT.uses_ev h.2.1, CT.uses_ev h.2.2]
  | .need c t, h => by
      simp only [CT.uses, Bool.and_eq_true] at h
      simp only [CT.ev, BE.uses_den hfg h.1, CT.uses_ev h.2]
  | .fail, _ => rfl
end

/-! ### going on -/

/-- what a loop's tree comes to from some numbers on; the outer variables are es, those of a round stand behind them -/
def goOn (ct : CT) (f : Nat → List Int → Int) (es : List Int) : Nat → List Int → Option (Nat × List Int)
  | 0, _ => none
  | n + 1, xs => match ct.ev (envOf (es ++ xs) f) with
    | some (0, xs') => goOn ct f es n xs'
    | some (j + 1, ys) => some (j, ys)
    | none => none

theorem goOn_more {ct : CT} {f : Nat → List Int → Int} {es : List Int} : ∀ {n m : Nat} {xs : List Int} {r : Nat × List Int}, n ≤ m → goOn ct f es n xs = some r → goOn ct f es m xs = some r
  | 0, m, xs, r, h, hg => by simp [goOn] at hg
  | n + 1, 0, xs, r, h, hg => by omega
  | n + 1, m + 1, xs, r, h, hg => by
      simp only [goOn] at hg ⊢
      split at hg
      · exact goOn_more (by omega) hg
      · exact hg
      · cases hg

/-- a loop's meaning: its number, how many numbers it has, how many outer variables, its tree, how many rounds at most -/
structure Mean where
  K : Nat
  n : Nat
  m : Nat
  ct : CT
  fuel : List Int → List Int → Nat

/-- functions, and those of a loop: K tells the exit, the next ones the values -/
def withLoop (M : Mean) (f : Nat → List Int → Int) : Nat → List Int → Int := fun k a =>
  if k < M.K ∨ M.K + M.m < k then f k a
  else match goOn M.ct f (a.drop M.n) (M.fuel (a.drop M.n) (a.take M.n)) (a.take M.n) with
    | some (j, ys) => if k = M.K then (j : Int) else ys.getD (k - M.K - 1) 0
    | none => 0

theorem withLoop_other {M : Mean} {f : Nat → List Int → Int} {k : Nat} {a : List Int} (h : k < M.K ∨ M.K + M.m < k) : withLoop M f k a = f k a := if_pos h

/-- the outer variables, in order -/
def varsE : Nat → Nat → List E
  | _, 0 => []
  | i, n + 1 => .var i :: varsE (i + 1) n
theorem varsE_den (env : Env) : ∀ (n i : Nat), denL env (varsE i n) = (List.range' i n).map env.v
  | 0, i => rfl
  | n + 1, i => by simp [varsE, denL, E.den, varsE_den env n (i + 1), List.range'_succ]

theorem upd_env {env : Env} {base : Nat} {xs : List Int} : (env.upd base xs) = envOf ((List.range' 0 base).map env.v ++ xs) env.f := by
  unfold Env.upd envOf
  congr 1
  funext i
  by_cases h : i < base
  · rw [if_pos h]
    simp [List.getD_eq_getElem?_getD, List.getElem?_append_left (show i < ((List.range' 0 base).map env.v).length by simpa using h), List.getElem?_range', h]
  · rw [if_neg h]
    simp [List.getD_eq_getElem?_getD, List.getElem?_append_right (show ((List.range' 0 base).map env.v).length ≤ i by simp; omega)]

/-- a loop with a meaning -/
structure LC.Means (L : LC) (M : Mean) (fn f : Nat → List Int → Int) : Prop where
  ct : L.ct = M.ct
  K : L.K = M.K
  n : L.n = M.n
  ex : L.ex = varsE 0 L.base
  fnf : ∀ k a, M.K ≤ k → k ≤ M.K + M.m → fn k a = withLoop M f k a
  agree : ∃ p, M.ct.uses p = true ∧ ∀ k a, p k = true → fn k a = f k a
  exits : ∀ x, x ∈ L.exits → x.n ≤ M.m

/-- one round -/
def StepOK (env : Env) (L : LC) (M : Mean) (xs : List Int) : Prop :=
  match L.ct.ev (env.upd L.base xs) with
  | some (0, xs') => xs'.length = L.n ∧ HeadOK env L xs' ∧ M.fuel ((List.range' 0 L.base).map env.v) xs' < M.fuel ((List.range' 0 L.base).map env.v) xs
  | some (j + 1, ys) => j < L.exits.length ∧ 0 < M.fuel ((List.range' 0 L.base).map env.v) xs
  | none => False

theorem runs_goOn {env : Env} {L : LC} {M : Mean} {f : Nat → List Int → Int} (hM : L.Means M env.f f) (hstep : ∀ xs, xs.length = L.n → HeadOK env L xs → StepOK env L M xs) :
    ∀ (k : Nat) (xs : List Int), xs.length = L.n → HeadOK env L xs → M.fuel ((List.range' 0 L.base).map env.v) xs ≤ k →
      ∃ j ys, Runs env L xs j ys ∧ j < L.exits.length ∧ goOn M.ct f ((List.range' 0 L.base).map env.v) (M.fuel ((List.range' 0 L.base).map env.v) xs) xs = some (j, ys)
  | k, xs, hl, hh, hk => by
      have hs := hstep xs hl hh
      unfold StepOK at hs
      have hev : L.ct.ev (env.upd L.base xs) = M.ct.ev (envOf ((List.range' 0 L.base).map env.v ++ xs) f) := by
        obtain ⟨p, h1, h2⟩ := hM.agree
        rw [hM.ct, upd_env]
        exact CT.uses_ev h2 h1
      split at hs
      · rename_i xs' he
        obtain ⟨h1, h2, h3⟩ := hs
        cases k with
        | zero => omega
        | succ k =>
          obtain ⟨j, ys, r1, r2, r3⟩ := runs_goOn hM hstep k xs' h1 h2 (by omega)
          refine ⟨j, ys, .again hh he r1, r2, ?_⟩
          rw [hev] at he
          obtain ⟨q, hq⟩ : ∃ q, M.fuel ((List.range' 0 L.base).map env.v) xs = q + 1 := ⟨_, (Nat.succ_pred_eq_of_pos (by omega)).symm⟩
          rw [hq]
          simp only [goOn, he]
          exact goOn_more (by omega) r3
      · rename_i j ys he
        refine ⟨j, ys, .exit hh he, hs.1, ?_⟩
        rw [hev] at he
        obtain ⟨q, hq⟩ : ∃ q, M.fuel ((List.range' 0 L.base).map env.v) xs = q + 1 := ⟨_, (Nat.succ_pred_eq_of_pos hs.2).symm⟩
        rw [hq]
        simp only [goOn, he]
      · exact hs.elim

/-- a loop's contract: each round keeps what holds at the head, and the rounds end -/
theorem loopOK_iter {env : Env} {L : LC} {M : Mean} {f : Nat → List Int → Int} (hM : L.Means M env.f f) (hstep : ∀ xs, xs.length = L.n → HeadOK env L xs → StepOK env L M xs)
    (hpost : ∀ xs j ys, xs.length = L.n → HeadOK env L xs → Runs env L xs j ys → env.f L.K (xs ++ denL env L.ex) = (j : Int) → (∀ i, i < M.m → env.f (L.K + 1 + i) (xs ++ denL env L.ex) = ys.getD i 0) →
      (∀ b, b ∈ L.post → b.den (env.upd L.base xs) = true) ∧ ∀ e lo hi, (e, lo, hi) ∈ L.prng → lo ≤ e.den (env.upd L.base xs) ∧ e.den (env.upd L.base xs) ≤ hi) : LoopOK env L := by
  intro xs hl hh _
  obtain ⟨j, ys, r1, r2, r3⟩ := runs_goOn hM hstep _ xs hl hh (Nat.le_refl _)
  have hex : denL env L.ex = (List.range' 0 L.base).map env.v := by rw [hM.ex, varsE_den]
  have hd : (xs ++ denL env L.ex).drop M.n = (List.range' 0 L.base).map env.v := by rw [← hM.n, ← hl, hex]; simp
  have ht : (xs ++ denL env L.ex).take M.n = xs := by rw [← hM.n, ← hl]; simp
  have hK : env.f L.K (xs ++ denL env L.ex) = (j : Int) := by
    rw [hM.fnf _ _ (by rw [hM.K]; omega) (by rw [hM.K]; omega)]
    unfold withLoop
    rw [if_neg (by rw [hM.K]; omega), hd, ht, r3, hM.K]
    simp
  have hV : ∀ i, i < M.m → env.f (L.K + 1 + i) (xs ++ denL env L.ex) = ys.getD i 0 := by
    intro i hi
    rw [hM.fnf _ _ (by rw [hM.K]; omega) (by rw [hM.K]; omega)]
    unfold withLoop
    rw [if_neg (by rw [hM.K]; omega), hd, ht, r3, hM.K]
    simp only
    rw [if_neg (by omega), show M.K + 1 + i - M.K - 1 = i by omega]
  obtain ⟨p1, p2⟩ := hpost xs j ys hl hh r1 hK hV
  refine ⟨j, ys, L.exits[j], r1, List.getElem?_eq_getElem r2, hK, fun i hi => hV i ?_, p1, p2⟩
  have := hM.exits L.exits[j] (List.getElem_mem r2)
  omega

/-! ### heads and rounds as propositions -/

def rngsP (env : Env) : Nat → List (Int × Int) → Prop
  | _, [] => True
  | b, (lo, hi) :: r => (lo ≤ env.v b ∧ env.v b ≤ hi) ∧ rngsP env (b + 1) r
def factsP (env : Env) : List BE → Prop
  | [] => True
  | b :: l => b.den env = true ∧ factsP env l
theorem rngsP_iff {env : Env} : ∀ {l : List (Int × Int)} {b : Nat}, rngsP env b l ↔ ∀ i lo hi, l[i]? = some (lo, hi) → lo ≤ env.v (b + i) ∧ env.v (b + i) ≤ hi
  | [], b => by simp [rngsP]
  | (lo, hi) :: r, b => by
      simp only [rngsP]
      constructor
      · rintro ⟨h1, h2⟩ i a c h
        cases i with
        | zero => simp at h; obtain ⟨rfl, rfl⟩ := h; exact h1
        | succ i =>
          have := rngsP_iff.1 h2 i a c (by simpa using h)
          rw [show b + 1 + i = b + (i + 1) by omega] at this
          exact this
      · intro h
        refine ⟨h 0 lo hi (by simp), rngsP_iff.2 fun i a c hi' => ?_⟩
        rw [show b + 1 + i = b + (i + 1) by omega]
        exact h (i + 1) a c (by simpa using hi')
theorem factsP_iff {env : Env} : ∀ {l : List BE}, factsP env l ↔ ∀ b, b ∈ l → b.den env = true
  | [] => by simp [factsP]
  | b :: l => by simp [factsP, factsP_iff (l := l)]
theorem headOK_iff {env : Env} {L : LC} {xs : List Int} : HeadOK env L xs ↔ rngsP (env.upd L.base xs) L.base L.rngs ∧ factsP (env.upd L.base xs) L.facts := by
  unfold HeadOK
  rw [rngsP_iff, factsP_iff]
theorem ct_ite (env : Env) (c : BE) (t e : CT) : (CT.ite c t e).ev env = if c.den env = true then t.ev env else e.ev env := by
  simp only [CT.ev]; cases c.den env <;> rfl
theorem ct_need (env : Env) (c : BE) (t : CT) : (CT.need c t).ev env = if c.den env = true then t.ev env else none := by
  simp only [CT.ev]; cases c.den env <;> rfl
theorem ct_again (env : Env) (es : List E) : (CT.again es).ev env = some (0, denL env es) := rfl
theorem ct_exit (env : Env) (j : Nat) (es : List E) : (CT.exit j es).ev env = some (j + 1, denL env es) := rfl
theorem upd_v (env : Env) (n : Nat) (xs : List Int) (i : Nat) : (env.upd n xs).v i = if i < n then env.v i else xs.getD (i - n) 0 := rfl
theorem upd_f (env : Env) (n : Nat) (xs : List Int) : (env.upd n xs).f = env.f := rfl
theorem withLoop_high {M : Mean} {f : Nat → List Int → Int} {k : Nat} {a : List Int} (hM : M.K + M.m < 1000) (h : 1000 ≤ k) : withLoop M f k a = f k a := withLoop_other (.inr (by omega))
theorem len1 {xs : List Int} (h : xs.length = 1) : ∃ a, xs = [a] := by
  match xs, h with
  | [a], _ => exact ⟨a, rfl⟩
theorem len2 {xs : List Int} (h : xs.length = 2) : ∃ a b, xs = [a, b] := by
  match xs, h with
  | [a, b], _ => exact ⟨a, b, rfl⟩
theorem len3 {xs : List Int} (h : xs.length = 3) : ∃ a b c, xs = [a, b, c] := by
  match xs, h with
  | [a, b, c], _ => exact ⟨a, b, c, rfl⟩
theorem len4 {xs : List Int} (h : xs.length = 4) : ∃ a b c d, xs = [a, b, c, d] := by
  match xs, h with
  | [a, b, c, d], _ => exact ⟨a, b, c, d, rfl⟩

/-- what holds of what a round comes to, by its tree -/
def CT.step (env : Env) (A : List Int → Prop) (X : Nat → List Int → Prop) : CT → Prop
  | .again es => A (denL env es)
  | .exit j es => X j (denL env es)
  | .ite c t e => (c.den env = true → t.step env A X) ∧ (c.den env = false → e.step env A X)
  | .need c t => c.den env = true ∧ t.step env A X
  | .fail => False
theorem CT.step_ev {env : Env} {A : List Int → Prop} {X : Nat → List Int → Prop} : ∀ {c : CT}, c.step env A X → (∃ xs, c.ev env = some (0, xs) ∧ A xs) ∨ ∃ j ys, c.ev env = some (j + 1, ys) ∧ X j ys
  | .again es, h => .inl ⟨_, rfl, h⟩
  | .exit j es, h => .inr ⟨_, _, rfl, h⟩
  | .ite c t e, h => by
      rw [ct_ite]
      cases hc : c.den env with
      | true => rw [if_pos rfl]; exact CT.step_ev (h.1 hc)
      | false => rw [if_neg (by simp)]; exact CT.step_ev (h.2 hc)
  | .need c t, h => by
      rw [ct_need, if_pos h.1]; exact CT.step_ev h.2
  | .fail, h => h.elim
theorem StepOK.of {env : Env} {L : LC} {M : Mean} {xs : List Int}
    (h : L.ct.step (env.upd L.base xs) (fun xs' => xs'.length = L.n ∧ HeadOK env L xs' ∧ M.fuel ((List.range' 0 L.base).map env.v) xs' < M.fuel ((List.range' 0 L.base).map env.v) xs)
      (fun j ys => j < L.exits.length ∧ 0 < M.fuel ((List.range' 0 L.base).map env.v) xs)) : StepOK env L M xs := by
  unfold StepOK
  rcases CT.step_ev h with ⟨xs', e, h⟩ | ⟨j, ys, e, h⟩ <;> rw [e] <;> exact h
end Go.SX
