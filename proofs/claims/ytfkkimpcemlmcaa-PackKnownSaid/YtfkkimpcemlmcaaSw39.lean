/- What the proofs of laws' trees go by: plain parameters taken apart, tests as propositions.
Loops whose outcome is what their rounds make of it: the meaning of a loop's functions, by going on round by round.
Tests as decision trees: expressions that are 0 or 1 are compared as functions of their tests. -/
import Derived.Test.YtfkkimpcemlmcaaSw27
namespace Go.SX
open Go
set_option linter.unusedVariables false

theorem den_blit (env : Env) (b : Bool) : (BE.lit b).den env = b := rfl
theorem den_conv (env : Env) (k : IntKind) (a : E) : (E.conv k a).den env = k.wrap (a.den env) := rfl
theorem flatI {w : World} {k : IntKind} {p : PV} (h : p.ok w (.flat false [some k])) : ∃ x, p = .flat [x] ∧ k.min ≤ x ∧ x ≤ k.max := by
  cases p with
  | flat xs =>
    obtain ⟨hw, _⟩ := h
    obtain ⟨x, _, rfl, g, e⟩ := hw
    rw [show _ = ([] : List Int) from e]
    exact ⟨x, rfl, wf_rng (g _ rfl)⟩
  | row d v => exact h.elim
theorem flatB {w : World} {p : PV} (h : p.ok w (.flat false [none])) : ∃ x, p = .flat [x] := by
  cases p with
  | flat xs =>
    obtain ⟨hw, _⟩ := h
    obtain ⟨x, _, rfl, g, e⟩ := hw
    rw [show _ = ([] : List Int) from e]
    exact ⟨x, rfl⟩
  | row d v => exact h.elim
end Go.SX

namespace Go.SX
open Go
set_option linter.unusedVariables false
set_option linter.unusedSimpArgs false
set_option linter.unusedSectionVars false

/-! ### the same under other functions -/

mutual
def E.uses (p : Nat → Bool) : E → Bool
  | .lit _ | .var _ => true
  | .op _ a b | .bin _ _ a b | .cmp _ a b => a.uses p && b.uses p
  | .conv _ a => a.uses p
  | .app f l => p f && usesL p l
  | .ite c a b => c.uses p && (a.uses p && b.uses p)
def usesL (p : Nat → Bool) : List E → Bool
  | [] => true
  | e :: l => e.uses p && usesL p l
end
def BE.uses (p : Nat → Bool) : BE → Bool
  | .lit _ => true
  | .cmp _ a b => a.uses p && b.uses p
  | .neg b => b.uses p
  | .and a b | .eqb a b => a.uses p && b.uses p
  | .tst e => e.uses p
def CT.uses (p : Nat → Bool) : CT → Bool
  | .again es => usesL p es
  | .exit _ es => usesL p es
  | .ite c t e => c.uses p && (t.uses p && e.uses p)
  | .need c t => c.uses p && t.uses p
  | .fail => true

section
variable {v : Nat → Int} {f g : Nat → List Int → Int} {p : Nat → Bool} (hfg : ∀ k a, p k = true → f k a = g k a)
include hfg
mutual
theorem E.uses_den : ∀ {e : E}, e.uses p = true → e.den ⟨v, f⟩ = e.den ⟨v, g⟩
  | .lit _, _ => rfl
  | .var _, _ => rfl
  | .op o a b, h => by
      simp only [E.uses, Bool.and_eq_true] at h
      simp only [E.den, E.uses_den h.1, E.uses_den h.2]
  | .bin o k a b, h => by
      simp only [E.uses, Bool.and_eq_true] at h
      simp only [E.den, E.uses_den h.1, E.uses_den h.2]
  | .cmp o a b, h => by
      simp only [E.uses, Bool.and_eq_true] at h
      simp only [E.den, E.uses_den h.1, E.uses_den h.2]
  | .conv k a, h => by
      simp only [E.uses] at h
      simp only [E.den, E.uses_den h]
  | .app k l, h => by
      simp only [E.uses, Bool.and_eq_true] at h
      simp only [E.den, usesL_den h.2]
      exact hfg _ _ h.1
  | .ite c a b, h => by
      simp only [E.uses, Bool.and_eq_true] at h
      simp only [E.den, E.uses_den h.1, E.uses_den h.2.1, E.uses_den h.2.2]
theorem usesL_den : ∀ {l : List E}, usesL p l = true → denL ⟨v, f⟩ l = denL ⟨v, g⟩ l
  | [], _ => rfl
  | e :: l, h => by
      simp only [usesL, Bool.and_eq_true] at h
      simp only [denL, E.uses_den h.1, usesL_den h.2]
end
theorem BE.uses_den : ∀ {b : BE}, b.uses p = true → b.den ⟨v, f⟩ = b.den ⟨v, g⟩
  | .lit _, _ => rfl
  | .cmp o a b, h => by
      simp only [BE.uses, Bool.and_eq_true] at h
      simp only [BE.den, E.uses_den hfg h.1, E.uses_den hfg h.2]
  | .neg b, h => by
      simp only [BE.uses] at h
      simp only [BE.den, BE.uses_den h]
  | .and a b, h => by
      simp only [BE.uses, Bool.and_eq_true] at h
      simp only [BE.den, BE.uses_den h.1, BE.uses_den h.2]
  | .eqb a b, h => by
      simp only [BE.uses, Bool.and_eq_true] at h
      simp only [BE.den, BE.uses_den h.1, BE.uses_den h.2]
  | .tst e, h => by
      simp only [BE.uses] at h
      simp only [BE.den, E.uses_den hfg h]
theorem CT.uses_ev : ∀ {c : CT}, c.uses p = true → c.ev ⟨v, f⟩ = c.ev ⟨v, g⟩
  | .again es, h => by simp only [CT.uses] at h; simp only [CT.ev, usesL_den hfg h]
  | .exit j es, h => by simp only [CT.uses] at h; simp only [CT.ev, usesL_den hfg h]
  | .ite c t e, h => by
      simp only [CT.uses, Bool.and_eq_true] at h
      simp only [CT.ev, BE.uses_den hfg h.1, CT.uses_ev h.2.1, CT.uses_ev h.2.2]
  | .need c t, h => by
      simp only [CT.uses, Bool.and_eq_true] at h
      simp only [CT.ev, BE.uses_den hfg h.1, CT.uses_ev h.2]
  | .fail, _ => rfl
end

/-! ### going on -/

/-- what a loop's tree comes to from some numbers on; the outer variables are es, those of a round stand behind them -/
def goOn (ct : CT) (f : Nat → List Int → Int) (es : List Int) : Nat → List Int → Option (Nat × List Int)
  | 0, _ => none
  | n + 1, xs => match ct.ev (envOf (es ++ xs) f) with
    | some (0, xs') => goOn ct f es n xs'
    | some (j + 1, ys) => some (j, ys)
    | none => none

theorem goOn_more {ct : CT} {f : Nat → List Int → Int} {es : List Int} : ∀ {n m : Nat} {xs : List Int} {r : Nat × List Int}, n ≤ m → goOn ct f es n xs = some r → goOn ct f es m xs = some r
  | 0, m, xs, r, h, hg => by simp [goOn] at hg
  | n + 1, 0, xs, r, h, hg => by omega
  | n + 1, m + 1, xs, r, h, hg => by
      simp only [goOn] at hg ⊢
      split at hg
      · exact goOn_more (by omega) hg
      · exact hg
      · cases hg

/-- a loop's meaning: its number, how many numbers it has, how many outer variables, its tree, how many rounds at most -/
structure Mean where
  K : Nat
  n : Nat
  m : Nat
  ct : CT
  fuel : List Int → List Int → Nat

/-- functions, and those of a loop: K tells the exit, the next ones the values -/
def withLoop (M : Mean) (f : Nat → List Int → Int) : Nat → List Int → Int := fun k a =>
  if k < M.K ∨ M.K + M.m < k then f k a
  else match goOn M.ct f (a.drop M.n) (M.fuel (a.drop M.n) (a.take M.n)) (a.take M.n) with
    | some (j, ys) => if k = M.K then (j : Int) else ys.getD (k - M.K - 1) 0
    | none => 0

theorem withLoop_other {M : Mean} {f : Nat → List Int → Int} {k : Nat} {a : List Int} (h : k < M.K ∨ M.K + M.m < k) : withLoop M f k a = f k a := if_pos h

/-- the outer variables, in order -/
def varsE : Nat → Nat → List E
  | _, 0 => []
  | i, n + 1 => .var i :: varsE (i + 1) n
theorem varsE_den (env : Env) : ∀ (n i : Nat), denL env (varsE i n) = (List.range' i n).map env.v
  | 0, i => rfl
  | n + 1, i => by simp [varsE, denL, E.den, varsE_den env n (i + 1), List.range'_succ]

theorem upd_env {env : Env} {base : Nat} {xs : List Int} : (env.upd base xs) = envOf ((List.range' 0 base).map env.v ++ xs) env.f := by
  unfold Env.upd envOf
  congr 1
  funext i
  by_cases h : i < base
  · rw [if_pos h]
    simp [List.getD_eq_getElem?_getD, List.getElem?_append_left (show i < ((List.range' 0 base).map env.v).length by simpa using h), List.getElem?_range', h]
  · rw [if_neg h]
    simp [List.getD_eq_getElem?_getD, List.getElem?_append_right (show ((List.range' 0 base).map env.v).length ≤ i by simp; omega)]

/-- a loop with a meaning -/
structure LC.Means (L : LC) (M : Mean) (fn f : Nat → List Int → Int) : Prop where
  ct : L.ct = M.ct
  K : L.K = M.K
  n : L.n = M.n
  ex : L.ex = varsE 0 L.base
  fnf : ∀ k a, M.K ≤ k → k ≤ M.K + M.m → fn k a = withLoop M f k a
  agree : ∃ p, M.ct.uses p = true ∧ ∀ k a, p k = true → fn k a = f k a
  exits : ∀ x, x ∈ L.exits → x.n ≤ M.m

/-- one round -/
def StepOK (env : Env) (L : LC) (M : Mean) (xs : List Int) : Prop :=
  match L.ct.ev (env.upd L.base xs) with
  | some (0, xs') => xs'.length = L.n ∧ HeadOK env L xs' ∧ M.fuel ((List.range' 0 L.base).map env.v) xs' < M.fuel ((List.range' 0 L.base).map env.v) xs
  | some (j + 1, ys) => j < L.exits.length ∧ 0 < M.fuel ((List.range' 0 L.base).map env.v) xs
  | none => False

theorem runs_goOn {env : Env} {L : LC} {M : Mean} {f : Nat → List Int → Int} (hM : L.Means M env.f f) (hstep : ∀ xs, xs.length = L.n → HeadOK env L xs → StepOK env L M xs) :
    ∀ (k : Nat) (xs : List Int), xs.length = L.n → HeadOK env L xs → M.fuel ((List.range' 0 L.base).map env.v) xs ≤ k →
      ∃ j ys, Runs env L xs j ys ∧ j < L.exits.length ∧ goOn M.ct f ((List.range' 0 L.base).map env.v) (M.fuel ((List.range' 0 L.base).map env.v) xs) xs = some (j, ys)
  | k, xs, hl, hh, hk => by
      have hs := hstep xs hl hh
      unfold StepOK at hs
      have hev : L.ct.ev (env.upd L.base xs) = M.ct.ev (envOf ((List.range' 0 L.base).map env.v ++ xs) f) := by
        obtain ⟨p, h1, h2⟩ := hM.agree
        rw [hM.ct, upd_env]
        exact CT.uses_ev h2 h1
      split at hs
      · rename_i xs' he
        obtain ⟨h1, h2, h3⟩ := hs
        cases k with
        | zero => omega
        | succ k =>
          obtain ⟨j, ys, r1, r2, r3⟩ := runs_goOn hM hstep k xs' h1 h2 (by omega)
          refine ⟨j, ys, .again hh he r1, r2, ?_⟩
          rw [hev] at he
          obtain ⟨q, hq⟩ : ∃ q, M.fuel ((List.range' 0 L.base).map env.v) xs = q + 1 := ⟨_, (Nat.succ_pred_eq_of_pos (by omega)).symm⟩
          rw [hq]
          simp only [goOn, he]
          exact goOn_more (by omega) r3
      · rename_i j ys he
        refine ⟨j, ys, .exit hh he, hs.1, ?_⟩
        rw [hev] at he
        obtain ⟨q, hq⟩ : ∃ q, M.fuel ((List.range' 0 L.base).map env.v) xs = q + 1 := ⟨_, (Nat.succ_pred_eq_of_pos hs.2).symm⟩
        rw [hq]
        simp only [goOn, he]
      · exact hs.elim

/-- a loop's contract: each round keeps what holds at the head, and the rounds end -/
theorem loopOK_iter {env : Env} {L : LC} {M : Mean} {f : Nat → List Int → Int} (hM : L.Means M env.f f) (hstep : ∀ xs, xs.length = L.n → HeadOK env L xs → StepOK env L M xs)
    (hpost : ∀ xs j ys, xs.length = L.n → HeadOK env L xs → Runs env L xs j ys → env.f L.K (xs ++ denL env L.ex) = (j : Int) → (∀ i, i < M.m → env.f (L.K + 1 + i) (xs ++ denL env L.ex) = ys.getD i 0) →
      (∀ b, b ∈ L.post → b.den (env.upd L.base xs) = true) ∧ ∀ e lo hi, (e, lo, hi) ∈ L.prng → lo ≤ e.den (env.upd L.base xs) ∧ e.den (env.upd L.base xs) ≤ hi) : LoopOK env L := by
  intro xs hl hh _
  obtain ⟨j, ys, r1, r2, r3⟩ := runs_goOn hM hstep _ xs hl hh (Nat.le_refl _)
  have hex : denL env L.ex = (List.range' 0 L.base).map env.v := by rw [hM.ex, varsE_den]
  have hd : (xs ++ denL env L.ex).drop M.n = (List.range' 0 L.base).map env.v := by rw [← hM.n, ← hl, hex]; simp
  have ht : (xs ++ denL env L.ex).take M.n = xs := by rw [← hM.n, ← hl]; simp
  have hK : env.f L.K (xs ++ denL env L.ex) = (j : Int) := by
    rw [hM.fnf _ _ (by rw [hM.K]; omega) (by rw [hM.K]; omega)]
    unfold withLoop
    rw [if_neg (by rw [hM.K]; omega), hd, ht, r3, hM.K]
    simp
  have hV : ∀ i, i < M.m → env.f (L.K + 1 + i) (xs ++ denL env L.ex) = ys.getD i 0 := by
    intro i hi
    rw [hM.fnf _ _ (by rw [hM.K]; omega) (by rw [hM.K]; omega)]
    unfold withLoop
    rw [if_neg (by rw [hM.K]; omega), hd, ht, r3, hM.K]
    simp only
    rw [if_neg (by omega), show M.K + 1 + i - M.K - 1 = i by omega]
  obtain ⟨p1, p2⟩ := hpost xs j ys hl hh r1 hK hV
  refine ⟨j, ys, L.exits[j], r1, List.getElem?_eq_getElem r2, hK, fun i hi => hV i ?_, p1, p2⟩
  have := hM.exits L.exits[j] (List.getElem_mem r2)
  omega

/-! ### heads and rounds as propositions -/

def rngsP (env : Env) : Nat → List (Int × Int) → Prop
  | _, [] => True
  | b, (lo, hi) :: r => (lo ≤ env.v b ∧ env.v b ≤ hi) ∧ rngsP env (b + 1) r
def factsP (env : Env) : List BE → Prop
  | [] => True
  | b :: l => b.den env = true ∧ factsP env l
theorem rngsP_iff {env : Env} : ∀ {l : List (Int × Int)} {b : Nat}, rngsP env b l ↔ ∀ i lo hi, l[i]? = some (lo, hi) → lo ≤ env.v (b + i) ∧ env.v (b + i) ≤ hi
  | [], b => by simp [rngsP]
  | (lo, hi) :: r, b => by
      simp only [rngsP]
      constructor
      · rintro ⟨h1, h2⟩ i a c h
        cases i with
        | zero => simp at h; obtain ⟨rfl, rfl⟩ := h; exact h1
        | succ i =>
          have := rngsP_iff.1 h2 i a c (by simpa using h)
          rw [show b + 1 + i = b + (i + 1) by omega] at this
          exact this
      · intro h
        refine ⟨h 0 lo hi (by simp), rngsP_iff.2 fun i a c hi' => ?_⟩
        rw [show b + 1 + i = b + (i + 1) by omega]
        exact h (i + 1) a c (by simpa using hi')
theorem factsP_iff {env : Env} : ∀ {l : List BE}, factsP env l ↔ ∀ b, b ∈ l → b.den env = true
  | [] => by simp [factsP]
  | b :: l => by simp [factsP, factsP_iff (l := l)]
theorem headOK_iff {env : Env} {L : LC} {xs : List Int} : HeadOK env L xs ↔ rngsP (env.upd L.base xs) L.base L.rngs ∧ factsP (env.upd L.base xs) L.facts := by
  unfold HeadOK
  rw [rngsP_iff, factsP_iff]
theorem ct_ite (env : Env) (c : BE) (t e : CT) : (CT.ite c t e).ev env = if c.den env = true then t.ev env else e.ev env := by
  simp only [CT.ev]; cases c.den env <;> rfl
theorem ct_need (env : Env) (c : BE) (t : CT) : (CT.need c t).ev env = if c.den env = true then t.ev env else none := by
  simp only [CT.ev]; cases c.den env <;> rfl
theorem ct_again (env : Env) (es : List E) : (CT.again es).ev env = some (0, denL env es) := rfl
theorem ct_exit (env : Env) (j : Nat) (es : List E) : (CT.exit j es).ev env = some (j + 1, denL env es) := rfl
theorem upd_v (env : Env) (n : Nat) (xs : List Int) (i : Nat) : (env.upd n xs).v i = if i < n then env.v i else xs.getD (i - n) 0 := rfl
theorem upd_f (env : Env) (n : Nat) (xs : List Int) : (env.upd n xs).f = env.f := rfl
theorem withLoop_high {M : Mean} {f : Nat → List Int → Int} {k : Nat} {a : List Int} (hM : M.K + M.m < 1000) (h : 1000 ≤ k) : withLoop M f k a = f k a := withLoop_other (.inr (by omega))
theorem len1 {xs : List Int} (h : xs.length = 1) : ∃ a, xs = [a] := by
  match xs, h with
  | [a], _ => exact ⟨a, rfl⟩
theorem len2 {xs : List Int} (h : xs.length = 2) : ∃ a b, xs = [a, b] := by
  match xs, h with
  | [a, b], _ => exact ⟨a, b, rfl⟩
theorem len3 {xs : List Int} (h : xs.length = 3) : ∃ a b c, xs = [a, b, c] := by
  match xs, h with
  | [a, b, c], _ => exact ⟨a, b, c, rfl⟩
theorem len4 {xs : List Int} (h : xs.length = 4) : ∃ a b c d, xs = [a, b, c, d] := by
  match xs, h with
  | [a, b, c, d], _ => exact ⟨a, b, c, d, rfl⟩

/-- what holds of what a round comes to, by its tree -/
def CT.step (env : Env) (A : List Int → Prop) (X : Nat → List Int → Prop) : CT → Prop
  | .again es => A (denL env es)
  | .exit j es => X j (denL env es)
  | .ite c t e => (c.den env = true → t.step env A X) ∧ (c.den env = false → e.step env A X)
  | .need c t => c.den env = true ∧ t.step env A X
  | .fail => False
theorem CT.step_ev {env : Env} {A : List Int → Prop} {X : Nat → List Int → Prop} : ∀ {c : CT}, c.step env A X → (∃ xs, c.ev env = some (0, xs) ∧ A xs) ∨ ∃ j ys, c.ev env = some (j + 1, ys) ∧ X j ys
  | .again es, h => .inl ⟨_, rfl, h⟩
  | .exit j es, h => .inr ⟨_, _, rfl, h⟩
  | .ite c t e, h => by
      rw [ct_ite]
      cases hc : c.den env with
      | true => rw [if_pos rfl]; exact CT.step_ev (h.1 hc)
      | false => rw [if_neg (by simp)]; exact CT.step_ev (h.2 hc)
  | .need c t, h => by
      rw [ct_need, if_pos h.1]; exact CT.step_ev h.2
  | .fail, h => h.elim
theorem StepOK.of {env : Env} {L : LC} {M : Mean} {xs : List Int}
    (h : L.ct.step (env.upd L.base xs) (fun xs' => xs'.length = L.n ∧ HeadOK env L xs' ∧ M.fuel ((List.range' 0 L.base).map env.v) xs' < M.fuel ((List.range' 0 L.base).map env.v) xs)
      (fun j ys => j < L.exits.length ∧ 0 < M.fuel ((List.range' 0 L.base).map env.v) xs)) : StepOK env L M xs := by
  unfold StepOK
  rcases CT.step_ev h with ⟨xs', e, h⟩ | ⟨j, ys, e, h⟩ <;> rw [e] <;> exact h
end Go.SX

namespace Go.SX
open Go
set_option linter.unusedVariables false
set_option linter.unusedSimpArgs false

/-! ### the arguments of max and min in order -/

def E.kind : E → Nat
  | .lit _ => 0 | .var _ => 1 | .op .. => 2 | .bin .. => 3 | .conv .. => 4 | .app .. => 5 | .ite .. => 6 | .cmp .. => 7
mutual
/-- does one come before the other (fuel: how deep is looked) -/
def E.before : Nat → E → E → Bool
  | 0, _, _ => false
  | _ + 1, .lit a, .lit b => decide (a < b)
  | _ + 1, .var i, .var j => Nat.blt i j
  | n + 1, .op o a b, .op o' a' b' => Nat.blt o.tag o'.tag || (Nat.beq o.tag o'.tag && (E.before n a a' || (a.same a' && E.before n b b')))
  | n + 1, .conv k a, .conv k' a' => E.before n a a'
  | n + 1, .bin o k a b, .bin o' k' a' b' => E.before n a a' || (a.same a' && E.before n b b')
  | n + 1, .app f l, .app g l' => Nat.blt f g || (Nat.beq f g && E.beforeL n l l')
  | n + 1, .ite c a b, .ite c' a' b' => E.before n c c' || (c.same c' && (E.before n a a' || (a.same a' && E.before n b b')))
  | n + 1, .cmp o a b, .cmp o' a' b' => E.before n a a' || (a.same a' && E.before n b b')
  | _ + 1, a, b => Nat.blt a.kind b.kind
def E.beforeL : Nat → List E → List E → Bool
  | 0, _, _ => false
  | _ + 1, [], [] => false
  | _ + 1, [], _ :: _ => true
  | _ + 1, _ :: _, [] => false
  | n + 1, a :: l, b :: l' => E.before n a b || (a.same b && E.beforeL n l l')
end
mutual
def E.ord : E → E
  | .op .mx a b => bif E.before 50 b.ord a.ord then .op .mx b.ord a.ord else .op .mx a.ord b.ord
  | .op .mn a b => bif E.before 50 b.ord a.ord then .op .mn b.ord a.ord else .op .mn a.ord b.ord
  | .op o a b => .op o a.ord b.ord
  | .bin o k a b => .bin o k a.ord b.ord
  | .conv k a => .conv k a.ord
  | .app f l => .app f (E.ordL l)
  | .ite c a b => .ite c.ord a.ord b.ord
  | .cmp o a b => .cmp o a.ord b.ord
  | e => e
def E.ordL : List E → List E
  | [] => []
  | e :: l => e.ord :: E.ordL l
end
theorem mx_comm (x y : Int) : O2.ev .mx x y = O2.ev .mx y x := by simp only [O2.ev]; split <;> split <;> omega
theorem mn_comm (x y : Int) : O2.ev .mn x y = O2.ev .mn y x := by simp only [O2.ev]; split <;> split <;> omega
mutual
theorem ord_den (env : Env) : ∀ e : E, e.ord.den env = e.den env
  | .lit _ => rfl
  | .var _ => rfl
  | .op o a b => by
      cases o
      case mx =>
        simp only [E.ord]
        cases E.before 50 b.ord a.ord
        · simp only [cond_false, E.den, ord_den env a, ord_den env b]
        · simp only [cond_true, E.den, ord_den env a, ord_den env b]; exact mx_comm _ _
      case mn =>
        simp only [E.ord]
        cases E.before 50 b.ord a.ord
        · simp only [cond_false, E.den, ord_den env a, ord_den env b]
        · simp only [cond_true, E.den, ord_den env a, ord_den env b]; exact mn_comm _ _
      all_goals simp only [E.ord, E.den, ord_den env a, ord_den env b]
  | .bin o k a b => by simp only [E.ord, E.den, ord_den env a, ord_den env b]
  | .conv k a => by simp only [E.ord, E.den, ord_den env a]
  | .app f l => by simp only [E.ord, E.den, ordL_den env l]
  | .ite c a b => by simp only [E.ord, E.den, ord_den env c, ord_den env a, ord_den env b]
  | .cmp o a b => by simp only [E.ord, E.den, ord_den env a, ord_den env b]
theorem ordL_den (env : Env) : ∀ l : List E, denL env (E.ordL l) = denL env l
  | [] => rfl
  | e :: l => by simp only [E.ordL, denL, ord_den env e, ordL_den env l]
end

/-! ### decision trees -/

inductive DT where
  | lf (b : Bool)
  | nd (i : Nat) (t e : DT)
def DT.ev (σ : Nat → Bool) : DT → Bool
  | .lf b => b
  | .nd i t e => bif σ i then t.ev σ else e.ev σ
def DT.same : DT → DT → Bool
  | .lf a, .lf b => a == b
  | .nd i t e, .nd j t' e' => Nat.beq i j && t.same t' && e.same e'
  | _, _ => false
theorem DT.same_ev {σ : Nat → Bool} : ∀ {a b : DT}, a.same b = true → a.ev σ = b.ev σ
  | .lf a, .lf b, h => by simp only [DT.same, beq_iff_eq] at h; rw [h]
  | .nd i t e, .nd j t' e', h => by
      simp only [DT.same, Bool.and_eq_true, beq_dec, decide_eq_true_eq] at h
      simp only [DT.ev, h.1.1, DT.same_ev h.1.2, DT.same_ev h.2]
  | .lf _, .nd .., h => by simp [DT.same] at h
  | .nd .., .lf _, h => by simp [DT.same] at h
def DT.mk (i : Nat) (t e : DT) : DT := bif t.same e then t else .nd i t e
theorem DT.mk_ev {σ : Nat → Bool} (i : Nat) (t e : DT) : (DT.mk i t e).ev σ = bif σ i then t.ev σ else e.ev σ := by
  unfold DT.mk
  cases h : t.same e with
  | true => rw [cond_true, ← DT.same_ev h]; cases σ i <;> rfl
  | false => rfl
def DT.top : DT → Nat
  | .lf _ => 1000000
  | .nd i _ _ => i
def DT.cof (i : Nat) (b : Bool) : DT → DT
  | .nd j t e => bif Nat.beq i j then (bif b then t else e) else .nd j t e
  | d => d
theorem DT.cof_ev {σ : Nat → Bool} (i : Nat) (d : DT) : (d.cof i (σ i)).ev σ = d.ev σ := by
  cases d with
  | lf b => rfl
  | nd j t e =>
    simp only [DT.cof, beq_dec]
    by_cases h : i = j
    · subst h; simp only [decide_true, cond_true, DT.ev]; cases σ i <;> rfl
    · simp only [h, decide_false, cond_false]
def minN (a b : Nat) : Nat := bif Nat.ble a b then a else b
def DT.ite : Nat → DT → DT → DT → Option DT
  | _, .lf true, t, _ => some t
  | _, .lf false, _, e => some e
  | 0, _, _, _ => none
  | n + 1, c, t, e =>
    let i := minN c.top (minN t.top e.top)
    match DT.ite n (c.cof i true) (t.cof i true) (e.cof i true), DT.ite n (c.cof i false) (t.cof i false) (e.cof i false) with
    | some a, some b => some (DT.mk i a b)
    | _, _ => none
theorem DT.ite_ev {σ : Nat → Bool} : ∀ {n : Nat} {c t e d : DT}, DT.ite n c t e = some d → d.ev σ = bif c.ev σ then t.ev σ else e.ev σ
  | n, .lf true, t, e, d, h => by cases n <;> (simp only [DT.ite, Option.some.injEq] at h; subst h; rfl)
  | n, .lf false, t, e, d, h => by cases n <;> (simp only [DT.ite, Option.some.injEq] at h; subst h; rfl)
  | 0, .nd i x y, t, e, d, h => by simp [DT.ite] at h
  | n + 1, .nd i x y, t, e, d, h => by
      simp only [DT.ite] at h
      generalize minN (DT.nd i x y).top (minN t.top e.top) = m at h
      split at h
      · rename_i a b h1 h2
        cases h
        rw [DT.mk_ev]
        cases hm : σ m with
        | true =>
          have := DT.ite_ev (σ := σ) h1
          rw [← hm, DT.cof_ev, DT.cof_ev, DT.cof_ev] at this
          rw [cond_true, this]
        | false =>
          have := DT.ite_ev (σ := σ) h2
          rw [← hm, DT.cof_ev, DT.cof_ev, DT.cof_ev] at this
          rw [cond_false, this]
      · cases h

/-! ### expressions as trees over their tests -/

def findE (e : BE) : Nat → List BE → Option Nat
  | _, [] => none
  | i, a :: l => bif e.same a then some i else findE e (i + 1) l
/-- a test's number, and the tests so far (the first one has the number 0) -/
def atomD (l : List BE) (e : BE) : DT × List BE := match findE e 0 l with
  | some i => (.nd i (.lf true) (.lf false), l)
  | none => (.nd l.length (.lf true) (.lf false), l ++ [e])
def DT.not (d : DT) : Option DT := DT.ite 200 d (.lf false) (.lf true)
def normC (l : List BE) (o : BinOp) (a b : E) : Option (DT × List BE) := match o with
  | .gtr => let p := atomD l (.cmp .leq a b); (DT.not p.1).map (·, p.2)
  | .geq => let p := atomD l (.cmp .lss a b); (DT.not p.1).map (·, p.2)
  | .neq => let p := atomD l (.cmp .eql a b); (DT.not p.1).map (·, p.2)
  | o => some (atomD l (.cmp o a b))
def toD (l : List BE) : E → Option (DT × List BE)
  | .lit n => some (.lf (n != 0), l)
  | .cmp o a b => normC l o a b
  | .ite c a b => match toD l c with
    | some (dc, l1) => (match toD l1 a with
      | some (da, l2) => (match toD l2 b with
        | some (db, l3) => (DT.ite 200 dc da db).map (·, l3)
        | none => none)
      | none => none)
    | none => none
  | e => some (atomD l (.tst e))
def sigma (env : Env) (l : List BE) (i : Nat) : Bool := match l[i]? with
  | some b => b.den env
  | none => false
def Pre (l l' : List BE) : Prop := ∃ r, l' = l ++ r
theorem Pre.refl (l : List BE) : Pre l l := ⟨[], by simp⟩
theorem Pre.trans {a b c : List BE} (h : Pre a b) (h' : Pre b c) : Pre a c := by
  obtain ⟨r, rfl⟩ := h
  obtain ⟨q, rfl⟩ := h'
  exact ⟨r ++ q, by simp⟩
def DT.under (n : Nat) : DT → Bool
  | .lf _ => true
  | .nd i t e => Nat.blt i n && t.under n && e.under n
theorem DT.under_mono {n m : Nat} (h : n ≤ m) : ∀ {d : DT}, d.under n = true → d.under m = true
  | .lf _, _ => rfl
  | .nd i t e, hd => by
      simp only [DT.under, Bool.and_eq_true, blt_dec, decide_eq_true_eq] at hd ⊢
      exact ⟨⟨by omega, DT.under_mono h hd.1.2⟩, DT.under_mono h hd.2⟩
theorem DT.ev_pre {env : Env} {l l' : List BE} (h : Pre l l') : ∀ {d : DT}, d.under l.length = true → d.ev (sigma env l') = d.ev (sigma env l)
  | .lf _, _ => rfl
  | .nd i t e, hd => by
      simp only [DT.under, Bool.and_eq_true, blt_dec, decide_eq_true_eq] at hd
      obtain ⟨r, rfl⟩ := h
      simp only [DT.ev, DT.ev_pre ⟨r, rfl⟩ hd.1.2, DT.ev_pre ⟨r, rfl⟩ hd.2]
      have : sigma env (l ++ r) i = sigma env l i := by unfold sigma; rw [List.getElem?_append_left hd.1.1]
      rw [this]
theorem DT.mk_under {n i : Nat} {t e : DT} (hi : i < n) (ht : t.under n = true) (he : e.under n = true) : (DT.mk i t e).under n = true := by
  unfold DT.mk
  cases t.same e with
  | true => exact ht
  | false => simp only [cond_false, DT.under, ht, he, Bool.and_true, blt_dec, decide_eq_true_eq]; exact hi
theorem DT.cof_under {n i : Nat} {b : Bool} {d : DT} (h : d.under n = true) : (d.cof i b).under n = true := by
  cases d with
  | lf _ => rfl
  | nd j t e =>
    simp only [DT.cof]
    cases Nat.beq i j with
    | false => exact h
    | true =>
      simp only [DT.under, Bool.and_eq_true] at h
      cases b
      · exact h.2
      · exact h.1.2
theorem minN_le (a b : Nat) : minN a b ≤ a := by
  unfold minN
  cases h : Nat.ble a b with
  | true => simp
  | false =>
    have : ¬ a ≤ b := fun hh => by rw [Nat.ble_eq_true_of_le hh] at h; cases h
    simp only [cond_false]; omega
theorem DT.ite_under {m : Nat} : ∀ {n : Nat} {c t e d : DT}, DT.ite n c t e = some d → c.under m = true → t.under m = true → e.under m = true → d.under m = true
  | n, .lf true, t, e, d, h, h1, h2, h3 => by cases n <;> (simp only [DT.ite, Option.some.injEq] at h; subst h; exact h2)
  | n, .lf false, t, e, d, h, h1, h2, h3 => by cases n <;> (simp only [DT.ite, Option.some.injEq] at h; subst h; exact h3)
  | 0, .nd i x y, t, e, d, h, _, _, _ => by simp [DT.ite] at h
  | n + 1, .nd i x y, t, e, d, h, h1, h2, h3 => by
      simp only [DT.ite] at h
      have hi : minN (DT.nd i x y).top (minN t.top e.top) < m := by
        have := minN_le (DT.nd i x y).top (minN t.top e.top)
        simp only [DT.under, Bool.and_eq_true, blt_dec, decide_eq_true_eq] at h1
        simp only [DT.top] at this ⊢
        omega
      generalize minN (DT.nd i x y).top (minN t.top e.top) = k at h hi
      split at h
      · rename_i a b g1 g2
        cases h
        exact DT.mk_under hi (DT.ite_under g1 (DT.cof_under h1) (DT.cof_under h2) (DT.cof_under h3)) (DT.ite_under g2 (DT.cof_under h1) (DT.cof_under h2) (DT.cof_under h3))
      · cases h

theorem findE_ok {e : BE} : ∀ {l : List BE} {k i : Nat}, findE e k l = some i → k ≤ i ∧ l[i - k]? = some e
  | [], k, i, h => by cases h
  | a :: l, k, i, h => by
      simp only [findE] at h
      cases hs : e.same a with
      | true =>
        rw [hs, cond_true] at h
        cases h
        rw [BE.same_eq hs]
        simp
      | false =>
        rw [hs, cond_false] at h
        obtain ⟨h1, h2⟩ := findE_ok h
        refine ⟨by omega, ?_⟩
        rw [show i - k = (i - (k + 1)) + 1 by omega]
        simpa using h2
theorem atomD_ok {env : Env} {l l' : List BE} {e : BE} {d : DT} (h : atomD l e = (d, l')) : Pre l l' ∧ d.under l'.length = true ∧ d.ev (sigma env l') = e.den env := by
  unfold atomD at h
  split at h
  · rename_i i hi
    cases h
    obtain ⟨_, h2⟩ := findE_ok hi
    rw [Nat.sub_zero] at h2
    have hlt := (List.getElem?_eq_some_iff.1 h2).1
    refine ⟨Pre.refl _, by simp only [DT.under, Bool.and_true, blt_dec, decide_eq_true_eq]; exact hlt, ?_⟩
    simp only [DT.ev, sigma, h2]
    cases e.den env <;> rfl
  · cases h
    refine ⟨⟨[e], rfl⟩, by simp [DT.under, blt_dec], ?_⟩
    simp only [DT.ev, sigma, List.getElem?_concat_length]
    cases e.den env <;> rfl
theorem notD_ok {n : Nat} {σ : Nat → Bool} {d d' : DT} (h : d.not = some d') (hu : d.under n = true) : d'.under n = true ∧ d'.ev σ = !d.ev σ := by
  refine ⟨DT.ite_under h hu rfl rfl, ?_⟩
  rw [DT.ite_ev h]
  cases d.ev σ <;> rfl
theorem normC_ok {env : Env} {l l' : List BE} {o : BinOp} {a b : E} {d : DT} (h : normC l o a b = some (d, l')) : Pre l l' ∧ d.under l'.length = true ∧ d.ev (sigma env l') = cmpI o (a.den env) (b.den env) := by
  have neg : ∀ o', (DT.not (atomD l (.cmp o' a b)).1).map (·, (atomD l (.cmp o' a b)).2) = some (d, l') → (∀ x y, cmpI o x y = !cmpI o' x y) → Pre l l' ∧ d.under l'.length = true ∧ d.ev (sigma env l') = cmpI o (a.den env) (b.den env) := by
    intro o' h ho
    rw [Option.map_eq_some_iff] at h
    obtain ⟨d', hd, e⟩ := h
    cases e
    obtain ⟨p1, p2, p3⟩ := atomD_ok (env := env) (l := l) (l' := (atomD l (.cmp o' a b)).2) (e := .cmp o' a b) (d := (atomD l (.cmp o' a b)).1) rfl
    obtain ⟨q1, q2⟩ := notD_ok (σ := sigma env (atomD l (.cmp o' a b)).2) hd p2
    refine ⟨p1, q1, ?_⟩
    rw [q2, p3, ho]
    rfl
  unfold normC at h
  split at h
  · exact neg .leq h fun x y => by simp only [cmpI]; rw [Bool.eq_iff_iff]; simp
  · exact neg .lss h fun x y => by simp only [cmpI]; rw [Bool.eq_iff_iff]; simp
  · exact neg .eql h fun x y => by simp only [cmpI]; rfl
  · simp only [Option.some.injEq] at h
    exact atomD_ok h
theorem toD_ok {env : Env} : ∀ {e : E} {l l' : List BE} {d : DT}, toD l e = some (d, l') → Pre l l' ∧ d.under l'.length = true ∧ d.ev (sigma env l') = (e.den env != 0)
  | .lit n, l, l', d, h => by simp only [toD, Option.some.injEq, Prod.mk.injEq] at h; obtain ⟨rfl, rfl⟩ := h; exact ⟨Pre.refl _, rfl, rfl⟩
  | .cmp o a b, l, l', d, h => by
      obtain ⟨h1, h2, h3⟩ := normC_ok (env := env) h
      refine ⟨h1, h2, ?_⟩
      rw [h3]
      simp only [E.den]
      cases cmpI o (a.den env) (b.den env) <;> rfl
  | .ite c a b, l, l', d, h => by
      simp only [toD] at h
      split at h
      case h_2 => cases h
      rename_i dc l1 h1
      split at h
      case h_2 => cases h
      rename_i da l2 h2
      split at h
      case h_2 => cases h
      rename_i db l3 h3
      rw [Option.map_eq_some_iff] at h
      obtain ⟨d', hd, e⟩ := h
      cases e
      obtain ⟨p1, p2, p3⟩ := toD_ok (env := env) h1
      obtain ⟨q1, q2, q3⟩ := toD_ok (env := env) h2
      obtain ⟨r1, r2, r3⟩ := toD_ok (env := env) h3
      have hlen : ∀ {x y : List BE}, Pre x y → x.length ≤ y.length := by rintro x y ⟨r, rfl⟩; simp
      refine ⟨p1.trans (q1.trans r1), DT.ite_under hd (DT.under_mono (hlen (q1.trans r1)) p2) (DT.under_mono (hlen r1) q2) r2, ?_⟩
      rw [DT.ite_ev hd, DT.ev_pre (q1.trans r1) p2, DT.ev_pre r1 q2, p3, q3, r3]
      simp only [E.den]
      cases hz : (c.den env == 0) with
      | true => rw [beq_iff_eq] at hz; rw [hz]; rfl
      | false =>
        have : (c.den env != 0) = true := by simp only [bne, hz, Bool.not_false]
        rw [this]; rfl
  | .var i, l, l', d, h => by obtain ⟨h1, h2, h3⟩ := atomD_ok (env := env) (Option.some.inj h); exact ⟨h1, h2, h3⟩
  | .op o a b, l, l', d, h => by obtain ⟨h1, h2, h3⟩ := atomD_ok (env := env) (Option.some.inj h); exact ⟨h1, h2, h3⟩
  | .bin o k a b, l, l', d, h => by obtain ⟨h1, h2, h3⟩ := atomD_ok (env := env) (Option.some.inj h); exact ⟨h1, h2, h3⟩
  | .conv k a, l, l', d, h => by obtain ⟨h1, h2, h3⟩ := atomD_ok (env := env) (Option.some.inj h); exact ⟨h1, h2, h3⟩
  | .app f x, l, l', d, h => by obtain ⟨h1, h2, h3⟩ := atomD_ok (env := env) (Option.some.inj h); exact ⟨h1, h2, h3⟩
/-- 0 or 1 -/
def E.is01 : E → Bool
  | .lit n => n == 0 || n == 1
  | .cmp _ _ _ => true
  | .ite _ a b => a.is01 && b.is01
  | _ => false
theorem is01_ok (env : Env) : ∀ {e : E}, e.is01 = true → e.den env = bif e.den env != 0 then 1 else 0
  | .lit n, h => by
      simp only [E.is01, Bool.or_eq_true, beq_iff_eq] at h
      rcases h with rfl | rfl <;> rfl
  | .cmp o a b, _ => by simp only [E.den]; cases cmpI o (a.den env) (b.den env) <;> rfl
  | .ite c a b, h => by
      simp only [E.is01, Bool.and_eq_true] at h
      simp only [E.den]
      cases c.den env == 0
      · exact is01_ok env h.1
      · exact is01_ok env h.2
  | .var _, h | .op .., h | .bin .., h | .conv .., h | .app .., h => by simp [E.is01] at h
/-- the same as tests -/
def sameD (a b : E) : Bool := a.is01 && b.is01 && match toD [] a with
  | some (da, l) => (match toD l b with
    | some (db, _) => da.same db
    | none => false)
  | none => false
theorem sameD_ok {env : Env} {a b : E} (h : sameD a b = true) : a.den env = b.den env := by
  unfold sameD at h
  rw [Bool.and_eq_true, Bool.and_eq_true] at h
  obtain ⟨⟨ha, hb⟩, h⟩ := h
  split at h
  case h_2 => cases h
  rename_i da l h1
  split at h
  case h_2 => cases h
  rename_i db l2 h2
  obtain ⟨p1, p2, p3⟩ := toD_ok (env := env) h1
  obtain ⟨q1, q2, q3⟩ := toD_ok (env := env) h2
  rw [is01_ok env ha, is01_ok env hb, ← p3, ← q3, ← DT.same_ev h, DT.ev_pre q1 p2]
/-- the same when what is known is put in -/
def sameS (cx : Ctx) (a b : E) : Bool :=
  let a' := (simpE cx a).ord
  let b' := (simpE cx b).ord
  a'.same b' || sameD a' b'
theorem sameS_ok {env : Env} {cx : Ctx} (hc : cx.ok env) {a b : E} (h : sameS cx a b = true) : a.den env = b.den env := by
  simp only [sameS, Bool.or_eq_true] at h
  have ha : ((simpE cx a).ord).den env = a.den env := by rw [ord_den, simpE_ok hc]
  have hb : ((simpE cx b).ord).den env = b.den env := by rw [ord_den, simpE_ok hc]
  rcases h with h | h
  · rw [← ha, ← hb, E.same_eq h]
  · rw [← ha, ← hb, sameD_ok h]
end Go.SX
