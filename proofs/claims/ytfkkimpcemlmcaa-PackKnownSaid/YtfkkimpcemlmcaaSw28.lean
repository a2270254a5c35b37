/- Expressions of integers and tests, with ranges: the plain part of a reckoner of Go code.
Linear forms; tests decided by cases; what a test says of joined values.
Lists of integers as single integers: codes, and the functions on them. Plain mathematics. -/
import Derived.Below
import Derived.Orders
namespace Go.SX
open Go
set_option linter.unusedVariables false
set_option linter.unusedSimpArgs false

inductive O2 where
  | add | sub | mul | tdiv | tmod | mx | mn

inductive E where
  | lit (n : Int)
  | var (i : Nat)
  | op (o : O2) (a b : E)
  | bin (o : BinOp) (k : IntKind) (a b : E)
  | conv (k : IntKind) (a : E)
  | app (f : Nat) (args : List E)
  | ite (c a b : E)
  | cmp (o : BinOp) (a b : E)

structure Env where
  v : Nat → Int
  f : Nat → List Int → Int

def O2.ev : O2 → Int → Int → Int
  | .add, x, y => x + y
  | .sub, x, y => x - y
  | .mul, x, y => x * y
  | .tdiv, x, y => x.tdiv y
  | .tmod, x, y => x.tmod y
  | .mx, x, y => if y > x then y else x
  | .mn, x, y => if y < x then y else x

def O2.tag : O2 → Nat
  | .add => 0 | .sub => 1 | .mul => 2 | .tdiv => 3 | .tmod => 4 | .mx => 5 | .mn => 6

def binI (o : BinOp) (k : IntKind) (x y : Int) : Int :=
  match o with
  | .add => k.wrap (x + y)
  | .sub => k.wrap (x - y)
  | .mul => k.wrap (x * y)
  | .quo => k.wrap (x.tdiv y)
  | .rem => x.tmod y
  | .and => k.wrap ((BitVec.ofInt k.bits x &&& BitVec.ofInt k.bits y).toNat)
  | .or => k.wrap ((BitVec.ofInt k.bits x ||| BitVec.ofInt k.bits y).toNat)
  | .xor => k.wrap ((BitVec.ofInt k.bits x ^^^ BitVec.ofInt k.bits y).toNat)
  | .andNot => k.wrap ((BitVec.ofInt k.bits x &&& ~~~BitVec.ofInt k.bits y).toNat)
  | .shl => k.wrap (x * 2 ^ (min y.toNat k.bits))
  | .shr => x.fdiv (2 ^ (min y.toNat k.bits))
  | _ => 0

def cmpI (o : BinOp) (x y : Int) : Bool :=
  match o with
  | .eql => x == y
  | .neq => x != y
  | .lss => decide (x < y)
  | .leq => decide (x ≤ y)
  | .gtr => decide (x > y)
  | .geq => decide (x ≥ y)
  | _ => false

mutual
def E.den (env : Env) : E → Int
  | .lit n => n
  | .var i => env.v i
  | .op o a b => o.ev (a.den env) (b.den env)
  | .bin o k a b => binI o k (a.den env) (b.den env)
  | .conv k a => k.wrap (a.den env)
  | .app f l => env.f f (denL env l)
  | .ite c a b => bif c.den env == 0 then b.den env else a.den env
  | .cmp o a b => bif cmpI o (a.den env) (b.den env) then 1 else 0
def denL (env : Env) : List E → List Int
  | [] => []
  | e :: l => e.den env :: denL env l
end

mutual
def E.same : E → E → Bool
  | .lit n, .lit m => n == m
  | .var i, .var j => i == j
  | .op o a b, .op o' a' b' => o.tag == o'.tag && a.same a' && b.same b'
  | .bin o k a b, .bin o' k' a' b' => o == o' && k == k' && a.same a' && b.same b'
  | .conv k a, .conv k' a' => k == k' && a.same a'
  | .app f l, .app f' l' => f == f' && sameL l l'
  | .ite c a b, .ite c' a' b' => c.same c' && a.same a' && b.same b'
  | .cmp o a b, .cmp o' a' b' => o == o' && a.same a' && b.same b'
  | _, _ => false
def sameL : List E → List E → Bool
  | [], [] => true
  | e :: l, e' :: l' => e.same e' && sameL l l'
  | _, _ => false
end

theorem O2.tag_inj {o o' : O2} (h : o.tag = o'.tag) : o = o' := by
  cases o <;> cases o' <;> first | rfl | (simp [O2.tag] at h)

mutual
theorem E.same_eq : ∀ {a b : E}, a.same b = true → a = b
  | .lit n, .lit m, h => by simp [E.same] at h; rw [h]
  | .var i, .var j, h => by simp [E.same] at h; rw [h]
  | .op o a b, .op o' a' b', h => by
      simp only [E.same, Bool.and_eq_true, beq_iff_eq] at h
      rw [O2.tag_inj h.1.1, E.same_eq h.1.2, E.same_eq h.2]
  | .bin o k a b, .bin o' k' a' b', h => by
      simp only [E.same, Bool.and_eq_true, beq_iff_eq] at h
      rw [h.1.1.1, h.1.1.2, E.same_eq h.1.2, E.same_eq h.2]
  | .conv k a, .conv k' a', h => by
      simp only [E.same, Bool.and_eq_true, beq_iff_eq] at h
      rw [h.1, E.same_eq h.2]
  | .app f l, .app f' l', h => by
      simp only [E.same, Bool.and_eq_true, beq_iff_eq] at h
      rw [h.1, sameL_eq h.2]
  | .ite c a b, .ite c' a' b', h => by
      simp only [E.same, Bool.and_eq_true] at h
      rw [E.same_eq h.1.1, E.same_eq h.1.2, E.same_eq h.2]
  | .cmp o a b, .cmp o' a' b', h => by
      simp only [E.same, Bool.and_eq_true, beq_iff_eq] at h
      rw [h.1.1, E.same_eq h.1.2, E.same_eq h.2]
  | .lit _, .var _, h | .lit _, .op .., h | .lit _, .bin .., h | .lit _, .conv .., h | .lit _, .app .., h | .lit _, .ite .., h | .lit _, .cmp .., h => by simp [E.same] at h
  | .var _, .lit _, h | .var _, .op .., h | .var _, .bin .., h | .var _, .conv .., h | .var _, .app .., h | .var _, .ite .., h | .var _, .cmp .., h => by simp [E.same] at h
  | .op .., .lit _, h | .op .., .var _, h | .op .., .bin .., h | .op .., .conv .., h | .op .., .app .., h | .op .., .ite .., h | .op .., .cmp .., h => by simp [E.same] at h
  | .bin .., .lit _, h | .bin .., .var _, h | .bin .., .op .., h | .bin .., .conv .., h | .bin .., .app .., h | .bin .., .ite .., h | .bin .., .cmp .., h => by simp [E.same] at h
  | .conv .., .lit _, h | .conv .., .var _, h | .conv .., .op .., h | .conv .., .bin .., h | .conv .., .app .., h | .conv .., .ite .., h | .conv .., .cmp .., h => by simp [E.same] at h
  | .app .., .lit _, h | .app .., .var _, h | .app .., .op .., h | .app .., .bin .., h | .app .., .conv .., h | .app .., .ite .., h | .app .., .cmp .., h => by simp [E.same] at h
  | .ite .., .lit _, h | .ite .., .var _, h | .ite .., .op .., h | .ite .., .bin .., h | .ite .., .conv .., h | .ite .., .app .., h | .ite .., .cmp .., h => by simp [E.same] at h
  | .cmp .., .lit _, h | .cmp .., .var _, h | .cmp .., .op .., h | .cmp .., .bin .., h | .cmp .., .conv .., h | .cmp .., .app .., h | .cmp .., .ite .., h => by simp [E.same] at h
theorem sameL_eq : ∀ {a b : List E}, sameL a b = true → a = b
  | [], [], _ => rfl
  | e :: l, e' :: l', h => by
      simp only [sameL, Bool.and_eq_true] at h
      rw [E.same_eq h.1, sameL_eq h.2]
  | [], _ :: _, h => by simp [sameL] at h
  | _ :: _, [], h => by simp [sameL] at h
end

/-! ### tests -/

inductive BE where
  | lit (b : Bool)
  | cmp (o : BinOp) (a b : E)
  | neg (b : BE)
  | and (a b : BE)
  | eqb (a b : BE)
  | tst (e : E)

def BE.den (env : Env) : BE → Bool
  | .lit b => b
  | .cmp o a b => cmpI o (a.den env) (b.den env)
  | .neg b => !b.den env
  | .and a b => a.den env && b.den env
  | .eqb a b => a.den env == b.den env
  | .tst e => e.den env != 0

def BE.same : BE → BE → Bool
  | .lit b, .lit c => b == c
  | .cmp o a b, .cmp o' a' b' => o == o' && a.same a' && b.same b'
  | .neg b, .neg c => b.same c
  | .and a b, .and a' b' => a.same a' && b.same b'
  | .eqb a b, .eqb a' b' => a.same a' && b.same b'
  | .tst e, .tst e' => e.same e'
  | _, _ => false

theorem BE.same_eq : ∀ {a b : BE}, a.same b = true → a = b
  | .lit b, .lit c, h => by simp [BE.same] at h; rw [h]
  | .cmp o a b, .cmp o' a' b', h => by
      simp only [BE.same, Bool.and_eq_true, beq_iff_eq] at h
      rw [h.1.1, E.same_eq h.1.2, E.same_eq h.2]
  | .neg b, .neg c, h => by simp only [BE.same] at h; rw [BE.same_eq h]
  | .and a b, .and a' b', h => by simp only [BE.same, Bool.and_eq_true] at h; rw [BE.same_eq h.1, BE.same_eq h.2]
  | .eqb a b, .eqb a' b', h => by simp only [BE.same, Bool.and_eq_true] at h; rw [BE.same_eq h.1, BE.same_eq h.2]
  | .tst e, .tst e', h => by simp only [BE.same] at h; rw [E.same_eq h]
  | .lit _, .cmp .., h | .lit _, .neg _, h | .lit _, .and .., h | .lit _, .eqb .., h | .lit _, .tst _, h => by simp [BE.same] at h
  | .cmp .., .lit _, h | .cmp .., .neg _, h | .cmp .., .and .., h | .cmp .., .eqb .., h | .cmp .., .tst _, h => by simp [BE.same] at h
  | .neg _, .lit _, h | .neg _, .cmp .., h | .neg _, .and .., h | .neg _, .eqb .., h | .neg _, .tst _, h => by simp [BE.same] at h
  | .and .., .lit _, h | .and .., .cmp .., h | .and .., .neg _, h | .and .., .eqb .., h | .and .., .tst _, h => by simp [BE.same] at h
  | .eqb .., .lit _, h | .eqb .., .cmp .., h | .eqb .., .neg _, h | .eqb .., .and .., h | .eqb .., .tst _, h => by simp [BE.same] at h
  | .tst _, .lit _, h | .tst _, .cmp .., h | .tst _, .neg _, h | .tst _, .and .., h | .tst _, .eqb .., h => by simp [BE.same] at h

/-! ### what is known -/

structure Ctx where
  b : List (E × Int × Int)
  k : List (BE × Bool)
  d : Nat := 5

structure Ctx.ok (env : Env) (c : Ctx) : Prop where
  b : ∀ e lo hi, (e, lo, hi) ∈ c.b → lo ≤ e.den env ∧ e.den env ≤ hi
  k : ∀ be v, (be, v) ∈ c.k → be.den env = v

def Ctx.none : Ctx := ⟨[], [], 5⟩
theorem Ctx.ok_none (env : Env) : Ctx.none.ok env := ⟨by simp [Ctx.none], by simp [Ctx.none]⟩

def lookB (e : E) : List (E × Int × Int) → Option (Int × Int)
  | [] => none
  | (e', r) :: l => if e.same e' then some r else lookB e l

def meet : Option (Int × Int) → Option (Int × Int) → Option (Int × Int)
  | none, r => r
  | r, none => r
  | some (a, b), some (c, d) => some (max a c, min b d)

def hull : Option (Int × Int) → Option (Int × Int) → Option (Int × Int)
  | some (a, b), some (c, d) => some (min a c, max b d)
  | _, _ => none

def absI (x : Int) : Int := if x < 0 then -x else x

def bndOp (o : O2) (a b : Int × Int) : Option (Int × Int) :=
  match o with
  | .add => some (a.1 + b.1, a.2 + b.2)
  | .sub => some (a.1 - b.2, a.2 - b.1)
  | .mul => some (min (min (a.1 * b.1) (a.1 * b.2)) (min (a.2 * b.1) (a.2 * b.2)), max (max (a.1 * b.1) (a.1 * b.2)) (max (a.2 * b.1) (a.2 * b.2)))
  | .mx => some (max a.1 b.1, max a.2 b.2)
  | .mn => some (min a.1 b.1, min a.2 b.2)
  | .tdiv => if 1 ≤ b.1 then (if 0 ≤ a.1 then some (0, a.2 / b.1) else some (-(max (absI a.1) (absI a.2) / b.1), max (absI a.1) (absI a.2) / b.1)) else none
  | .tmod => if 1 ≤ b.1 then (if 0 ≤ a.1 then some (0, min a.2 (b.2 - 1)) else some (-(b.2 - 1), b.2 - 1)) else none

def rng (k : IntKind) : Int × Int := (k.min, k.max)

def bnd (c : Ctx) : E → Option (Int × Int)
  | .lit n => some (n, n)
  | .var i => lookB (.var i) c.b
  | .op o a b => meet (lookB (.op o a b) c.b) (match bnd c a, bnd c b with | some x, some y => bndOp o x y | _, _ => none)
  | .bin o k a b => meet (lookB (.bin o k a b) c.b)
      (match o with
       | .shr => (match bnd c a with | some x => some (min x.1 0, max x.2 0) | none => none)
       | .rem => none
       | .eql | .neq | .lss | .leq | .gtr | .geq => none
       | _ => some (rng k))
  | .conv k a => meet (lookB (.conv k a) c.b) (some (rng k))
  | .app f l => lookB (.app f l) c.b
  | .ite d a b => meet (lookB (.ite d a b) c.b) (hull (bnd c a) (bnd c b))
  | .cmp o a b => meet (lookB (.cmp o a b) c.b) (some (0, 1))

/-! ### the ranges are right -/

theorem wrap_rng (k : IntKind) (n : Int) : k.min ≤ k.wrap n ∧ k.wrap n ≤ k.max := by
  cases k <;> simp [IntKind.min, IntKind.max, IntKind.wrap, IntKind.signed, IntKind.bits] <;> (try split) <;> omega

theorem wrap_id {k : IntKind} {n : Int} (h : k.min ≤ n) (h' : n ≤ k.max) : k.wrap n = n := by
  cases k <;> simp [IntKind.min, IntKind.max, IntKind.wrap, IntKind.signed, IntKind.bits] at * <;> (try split) <;> omega

theorem lookB_ok {env : Env} {e : E} {l : List (E × Int × Int)} (h : ∀ e lo hi, (e, lo, hi) ∈ l → lo ≤ e.den env ∧ e.den env ≤ hi) {r : Int × Int}
    (hr : lookB e l = some r) : r.1 ≤ e.den env ∧ e.den env ≤ r.2 := by
  induction l with
  | nil => simp [lookB] at hr
  | cons x l ih =>
    obtain ⟨e', lo, hi⟩ := x
    simp only [lookB] at hr
    split at hr
    · rename_i hs
      rw [E.same_eq hs]
      cases hr
      exact h e' lo hi (by simp)
    · exact ih (fun e lo hi hm => h e lo hi (by simp [hm])) hr

theorem meet_ok {x : Int} {p q : Option (Int × Int)} (hp : ∀ r, p = some r → r.1 ≤ x ∧ x ≤ r.2) (hq : ∀ r, q = some r → r.1 ≤ x ∧ x ≤ r.2) :
    ∀ r, meet p q = some r → r.1 ≤ x ∧ x ≤ r.2 := by
  intro r hr
  cases p with
  | none => simp [meet] at hr; exact hq r hr
  | some a =>
    cases q with
    | none => simp [meet] at hr; exact hp r (by simp [hr])
    | some b =>
      obtain ⟨a1, a2⟩ := a
      obtain ⟨b1, b2⟩ := b
      simp [meet] at hr
      subst hr
      have := hp _ rfl
      have := hq _ rfl
      simp at *
      omega

theorem seg_mul {a x b : Int} (y : Int) (h : a ≤ x) (h' : x ≤ b) : min (a * y) (b * y) ≤ x * y ∧ x * y ≤ max (a * y) (b * y) := by
  by_cases hy : 0 ≤ y
  · have h1 := Int.mul_le_mul_of_nonneg_right h hy
    have h2 := Int.mul_le_mul_of_nonneg_right h' hy
    omega
  · have h1 := Int.mul_le_mul_of_nonpos_right h (by omega : y ≤ 0)
    have h2 := Int.mul_le_mul_of_nonpos_right h' (by omega : y ≤ 0)
    omega

theorem box_mul {a b c d x y : Int} (h1 : a ≤ x) (h2 : x ≤ b) (h3 : c ≤ y) (h4 : y ≤ d) :
    min (min (a * c) (a * d)) (min (b * c) (b * d)) ≤ x * y ∧ x * y ≤ max (max (a * c) (a * d)) (max (b * c) (b * d)) := by
  have e1 := seg_mul y h1 h2
  have e2 := seg_mul a h3 h4
  have e3 := seg_mul b h3 h4
  rw [Int.mul_comm c a, Int.mul_comm d a, Int.mul_comm y a] at e2
  rw [Int.mul_comm c b, Int.mul_comm d b, Int.mul_comm y b] at e3
  generalize a * y = ay at *
  generalize b * y = yb at *
  generalize x * y = xy at *
  omega

theorem tdiv_le {x y a b : Int} (hy : 1 ≤ y) (ha : 0 ≤ x) (hb : x ≤ a) (hc : b ≤ y) (hb1 : 1 ≤ b) : 0 ≤ x.tdiv y ∧ x.tdiv y ≤ a / b := by
  rw [Int.tdiv_eq_ediv_of_nonneg ha]
  refine ⟨Int.ediv_nonneg ha (by omega), ?_⟩
  have h1 : x / y ≤ x / b := by
    rw [Int.le_ediv_iff_mul_le (by omega)]
    have h2 : 0 ≤ x / y := Int.ediv_nonneg ha (by omega)
    have h3 : x / y * b ≤ x / y * y := Int.mul_le_mul_of_nonneg_left hc h2
    have h4 := Int.ediv_mul_le x (show y ≠ 0 by omega)
    omega
  have h2 : x / b ≤ a / b := Int.ediv_le_ediv (by omega) hb
  omega

theorem bndOp_ok {o : O2} {a b : Int × Int} {x y : Int} (ha : a.1 ≤ x ∧ x ≤ a.2) (hb : b.1 ≤ y ∧ y ≤ b.2) :
    ∀ r, bndOp o a b = some r → r.1 ≤ o.ev x y ∧ o.ev x y ≤ r.2 := by
  obtain ⟨a1, a2⟩ := a
  obtain ⟨b1, b2⟩ := b
  intro r hr
  simp only at ha hb
  cases o with
  | add => simp [bndOp] at hr; subst hr; simp [O2.ev]; omega
  | sub => simp [bndOp] at hr; subst hr; simp [O2.ev]; omega
  | mul =>
    simp only [bndOp, Option.some.injEq] at hr
    subst hr
    simp only [O2.ev]
    exact box_mul ha.1 ha.2 hb.1 hb.2
  | mx => simp [bndOp] at hr; subst hr; simp only [O2.ev]; split <;> omega
  | mn => simp [bndOp] at hr; subst hr; simp only [O2.ev]; split <;> omega
  | tdiv =>
    simp only [bndOp] at hr
    split at hr
    · rename_i h1
      split at hr
      · rename_i h2
        cases hr
        exact tdiv_le (by omega) (by omega) ha.2 hb.1 h1
      · rename_i h2
        cases hr
        simp only [O2.ev]
        by_cases hx : 0 ≤ x
        · have h3 := tdiv_le (y := y) (a := max (absI a1) (absI a2)) (b := b1) (by omega) hx (by unfold absI; split <;> split <;> omega) hb.1 h1
          have h4 : 0 ≤ max (absI a1) (absI a2) / b1 := by omega
          skip
          omega
        · have h3 := tdiv_le (x := -x) (y := y) (a := max (absI a1) (absI a2)) (b := b1) (by omega) (by omega) (by unfold absI; split <;> split <;> omega) hb.1 h1
          rw [Int.neg_tdiv] at h3
          skip
          omega
    · simp at hr
  | tmod =>
    simp only [bndOp] at hr
    split at hr
    · rename_i h1
      split at hr
      · cases hr
        simp only [O2.ev]
        have h2 := Int.tmod_lt_of_pos x (show 0 < y by omega)
        have h3 := Int.tmod_nonneg (a := x) y (by omega)
        have h4 : x.tmod y ≤ x := by
          rw [Int.tmod_eq_emod_of_nonneg (by omega)]
          rcases Int.lt_or_le x y with h9 | h9
          · rw [Int.emod_eq_of_lt (by omega) h9]; omega
          · have h8 := Int.emod_lt_of_pos x (show 0 < y by omega)
            omega
        skip
        omega
      · cases hr
        simp only [O2.ev]
        have h2 := Int.tmod_lt_of_pos x (show 0 < y by omega)
        have h3 : -y < x.tmod y := by
          by_cases hx : 0 ≤ x
          · have := Int.tmod_nonneg y hx; omega
          · have h4 := Int.tmod_lt_of_pos (-x) (show 0 < y by omega)
            rw [Int.neg_tmod] at h4
            omega
        skip
        omega
    · simp at hr

theorem fdiv_rng {x a b : Int} (n : Nat) (ha : a ≤ x) (hb : x ≤ b) : min a 0 ≤ x.fdiv (2 ^ n) ∧ x.fdiv (2 ^ n) ≤ max b 0 := by
  have hp : (1 : Int) ≤ 2 ^ n := by
    have h : (0 : Int) < 2 ^ n := Int.pow_pos (by omega)
    omega
  have he : x.fdiv (2 ^ n) = x / 2 ^ n := Int.fdiv_eq_ediv_of_nonneg _ (by omega)
  rw [he]
  generalize (2 : Int) ^ n = p at *
  constructor
  · rw [Int.le_ediv_iff_mul_le (by omega)]
    by_cases h : 0 ≤ a
    · rw [Int.min_eq_right h]; omega
    · rw [Int.min_eq_left (by omega)]
      have h2 : a * p ≤ a * 1 := Int.mul_le_mul_of_nonpos_left (by omega) hp
      omega
  · have h1 : x / p ≤ max b 0 / p := Int.ediv_le_ediv (by omega) (by omega)
    have h2 : max b 0 / p ≤ max b 0 := Int.ediv_le_self _ (by omega)
    omega

theorem bnd_ok {env : Env} {c : Ctx} (hc : c.ok env) : ∀ (e : E) (r : Int × Int), bnd c e = some r → r.1 ≤ e.den env ∧ e.den env ≤ r.2
  | .lit n, r, h => by simp [bnd] at h; subst h; simp [E.den]
  | .var i, r, h => lookB_ok hc.b h
  | .op o a b, r, h => by
      refine meet_ok (x := (E.op o a b).den env) (fun r hr => lookB_ok hc.b hr) ?_ r h
      intro r hr
      split at hr
      · rename_i x y hx hy
        simp only [E.den]
        exact bndOp_ok (bnd_ok hc a x hx) (bnd_ok hc b y hy) r hr
      · simp at hr
  | .bin o k a b, r, h => by
      refine meet_ok (x := (E.bin o k a b).den env) (fun r hr => lookB_ok hc.b hr) ?_ r h
      intro r hr
      simp only [E.den]
      cases o <;> simp only at hr <;> first
        | (cases hr; simp only [binI, rng]; exact wrap_rng _ _)
        | (simp at hr; done)
        | skip
      split at hr
      · rename_i x hx
        cases hr
        have := bnd_ok hc a x hx
        simp only [binI]
        exact fdiv_rng _ this.1 this.2
      · simp at hr
  | .conv k a, r, h => by
      refine meet_ok (x := (E.conv k a).den env) (fun r hr => lookB_ok hc.b hr) ?_ r h
      intro r hr
      cases hr
      simp only [E.den, rng]
      exact wrap_rng _ _
  | .app f l, r, h => lookB_ok hc.b h
  | .ite d a b, r, h => by
      refine meet_ok (x := (E.ite d a b).den env) (fun r hr => lookB_ok hc.b hr) ?_ r h
      intro r hr
      cases ha : bnd c a with
      | none => simp [ha, hull] at hr
      | some p =>
        cases hb : bnd c b with
        | none => simp [ha, hb, hull] at hr
        | some q =>
          obtain ⟨p1, p2⟩ := p
          obtain ⟨q1, q2⟩ := q
          have h1 := bnd_ok hc a _ ha
          have h2 := bnd_ok hc b _ hb
          simp only [ha, hb, hull, Option.some.injEq] at hr
          subst hr
          simp only at h1 h2 ⊢
          simp only [E.den]
          cases (d.den env == 0) <;> simp only [cond_true, cond_false] <;> omega
  | .cmp o a b, r, h => by
      refine meet_ok (x := (E.cmp o a b).den env) (fun r hr => lookB_ok hc.b hr) ?_ r h
      intro r hr
      cases hr
      simp only [E.den]
      cases cmpI o (a.den env) (b.den env) <;> simp

/-! ### making expressions -/

def fits (c : Ctx) (k : IntKind) (e : E) : Bool :=
  match bnd c e with
  | some r => decide (k.min ≤ r.1) && decide (r.2 ≤ k.max)
  | none => false

theorem fits_ok {env : Env} {c : Ctx} (hc : c.ok env) {k : IntKind} {e : E} (h : fits c k e = true) : k.wrap (e.den env) = e.den env := by
  unfold fits at h
  split at h
  · rename_i r hr
    simp at h
    have := bnd_ok hc e r hr
    exact wrap_id (by omega) (by omega)
  · simp at h

def exact2 : BinOp → Option O2
  | .add => some .add
  | .sub => some .sub
  | .mul => some .mul
  | .quo => some .tdiv
  | _ => none

def mkBin (c : Ctx) (o : BinOp) (k : IntKind) (a b : E) : E :=
  match a, b with
  | .lit x, .lit y => .lit (binI o k x y)
  | a, b =>
    match o with
    | .rem => .op .tmod a b
    | o =>
      match exact2 o with
      | some o2 => if fits c k (.op o2 a b) then .op o2 a b else .bin o k a b
      | none => .bin o k a b

theorem exact2_ok {o : BinOp} {o2 : O2} (h : exact2 o = some o2) (k : IntKind) (x y : Int) : binI o k x y = k.wrap (o2.ev x y) := by
  cases o <;> simp [exact2] at h <;> subst h <;> rfl

theorem mkBin_ok {env : Env} {c : Ctx} (hc : c.ok env) (o : BinOp) (k : IntKind) (a b : E) :
    (mkBin c o k a b).den env = binI o k (a.den env) (b.den env) := by
  have gen : ∀ a b : E, (match o with
    | .rem => E.op .tmod a b
    | o =>
      match exact2 o with
      | some o2 => if fits c k (.op o2 a b) then .op o2 a b else .bin o k a b
      | none => .bin o k a b).den env = binI o k (a.den env) (b.den env) := by
    intro a b
    by_cases hr : o = .rem
    · subst hr; rfl
    · have : (match o with
        | .rem => E.op .tmod a b
        | o =>
          match exact2 o with
          | some o2 => if fits c k (.op o2 a b) then .op o2 a b else .bin o k a b
          | none => .bin o k a b) = (match exact2 o with
          | some o2 => if fits c k (.op o2 a b) then .op o2 a b else .bin o k a b
          | none => .bin o k a b) := by
        cases o <;> first | rfl | exact absurd rfl hr
      rw [this]
      split
      · rename_i o2 h2
        split
        · rename_i hf
          have h5 := fits_ok hc hf
          simp only [E.den] at h5 ⊢
          rw [exact2_ok h2, h5]
        · rfl
      · rfl
  unfold mkBin
  split
  · rfl
  · exact gen a b

def mkConv (c : Ctx) (k : IntKind) (a : E) : E :=
  match a with
  | .lit x => .lit (k.wrap x)
  | a => if fits c k a then a else .conv k a

theorem mkConv_ok {env : Env} {c : Ctx} (hc : c.ok env) (k : IntKind) (a : E) : (mkConv c k a).den env = k.wrap (a.den env) := by
  unfold mkConv
  split
  · rfl
  · split
    · rename_i h; exact (fits_ok hc h).symm
    · rfl

def mkO2 (o : O2) (a b : E) : E :=
  match a, b with
  | .lit x, .lit y => .lit (o.ev x y)
  | a, b => .op o a b

theorem mkO2_ok (env : Env) (o : O2) (a b : E) : (mkO2 o a b).den env = o.ev (a.den env) (b.den env) := by
  unfold mkO2; split <;> rfl

/-- least and greatest, where ranges decide it -/
def mkMM (c : Ctx) (o : O2) (a b : E) : E :=
  match a, b with
  | .lit x, .lit y => .lit (o.ev x y)
  | a, b =>
    match o, bnd c a, bnd c b with
    | .mx, some (al, ah), some (bl, bh) => if ah ≤ bl then b else if bh ≤ al then a else .op .mx a b
    | .mn, some (al, ah), some (bl, bh) => if ah ≤ bl then a else if bh ≤ al then b else .op .mn a b
    | o, _, _ => .op o a b

theorem mkMM_ok {env : Env} {c : Ctx} (hc : c.ok env) (o : O2) (a b : E) : (mkMM c o a b).den env = o.ev (a.den env) (b.den env) := by
  unfold mkMM
  split
  · rfl
  · split
    · rename_i al ah bl bh h1 h2
      have e1 := bnd_ok hc _ _ h1
      have e2 := bnd_ok hc _ _ h2
      simp only at e1 e2
      split
      · simp only [O2.ev]; split <;> omega
      · split
        · simp only [O2.ev]; split <;> omega
        · rfl
    · rename_i al ah bl bh h1 h2
      have e1 := bnd_ok hc _ _ h1
      have e2 := bnd_ok hc _ _ h2
      simp only at e1 e2
      split
      · simp only [O2.ev]; split <;> omega
      · split
        · simp only [O2.ev]; split <;> omega
        · rfl
    · rfl

/-! ### making tests -/

def cmpB (o : BinOp) (x y : Int × Int) : Option Bool :=
  match o with
  | .lss => if x.2 < y.1 then some true else if y.2 ≤ x.1 then some false else none
  | .leq => if x.2 ≤ y.1 then some true else if y.2 < x.1 then some false else none
  | .gtr => if y.2 < x.1 then some true else if x.2 ≤ y.1 then some false else none
  | .geq => if y.2 ≤ x.1 then some true else if x.2 < y.1 then some false else none
  | .eql => if x.2 < y.1 then some false else if y.2 < x.1 then some false else if x.1 = x.2 ∧ y.1 = y.2 ∧ x.1 = y.1 then some true else none
  | .neq => if x.2 < y.1 then some true else if y.2 < x.1 then some true else if x.1 = x.2 ∧ y.1 = y.2 ∧ x.1 = y.1 then some false else none
  | _ => none

theorem cmpB_ok {o : BinOp} {p q : Int × Int} {x y : Int} (hp : p.1 ≤ x ∧ x ≤ p.2) (hq : q.1 ≤ y ∧ y ≤ q.2) {v : Bool} (h : cmpB o p q = some v) : cmpI o x y = v := by
  obtain ⟨a, b⟩ := p
  obtain ⟨c, d⟩ := q
  simp only at hp hq
  have key : (o = .lss ∨ o = .leq ∨ o = .gtr ∨ o = .geq ∨ o = .eql ∨ o = .neq) := by cases o <;> simp [cmpB] at h <;> simp
  rcases key with rfl | rfl | rfl | rfl | rfl | rfl <;> simp only [cmpB] at h <;> simp only [cmpI]
  all_goals repeat' (split at h)
  all_goals first
    | (cases h; first | (simp; omega) | (rw [decide_eq_true_iff]; omega) | (rw [decide_eq_false_iff_not]; omega))
    | (simp at h; done)

/-- what a comparison of an expression with itself comes to -/
def sameCmp : BinOp → Option Bool
  | .eql | .leq | .geq => some true
  | .neq | .lss | .gtr => some false
  | _ => none
theorem sameCmp_ok {o : BinOp} {v : Bool} (h : sameCmp o = some v) (x : Int) : cmpI o x x = v := by
  cases o <;> simp [sameCmp] at h <;> subst h <;> simp [cmpI]
def cmpS (o : BinOp) (a b : E) : BE := bif a.same b then (match sameCmp o with
  | some v => .lit v
  | none => .cmp o a b) else .cmp o a b
theorem cmpS_ok (env : Env) (o : BinOp) (a b : E) : (cmpS o a b).den env = cmpI o (a.den env) (b.den env) := by
  unfold cmpS
  cases h : a.same b
  · rfl
  · rw [E.same_eq h]
    simp only [cond_true]
    split
    · rename_i v hv
      exact (sameCmp_ok hv _).symm
    · rfl

def mkCmp (c : Ctx) (o : BinOp) (a b : E) : BE :=
  match a, b with
  | .lit x, .lit y => .lit (cmpI o x y)
  | a, b =>
    match bnd c a, bnd c b with
    | some x, some y => match cmpB o x y with
      | some v => .lit v
      | none => cmpS o a b
    | _, _ => cmpS o a b

theorem mkCmp_ok {env : Env} {c : Ctx} (hc : c.ok env) (o : BinOp) (a b : E) : (mkCmp c o a b).den env = cmpI o (a.den env) (b.den env) := by
  unfold mkCmp
  split
  · rfl
  · split
    · rename_i x y hx hy
      split
      · rename_i v hv
        exact (cmpB_ok (bnd_ok hc _ _ hx) (bnd_ok hc _ _ hy) hv).symm
      · exact cmpS_ok _ _ _ _
    · exact cmpS_ok _ _ _ _

def mkNeg : BE → BE
  | .lit b => .lit (!b)
  | .neg b => b
  | b => .neg b

theorem mkNeg_ok (env : Env) (b : BE) : (mkNeg b).den env = !b.den env := by
  unfold mkNeg; split <;> simp [BE.den]

def mkAnd : BE → BE → BE
  | .lit true, b => b
  | .lit false, _ => .lit false
  | b, .lit true => b
  | a, b => .and a b

theorem mkAnd_ok (env : Env) (a b : BE) : (mkAnd a b).den env = (a.den env && b.den env) := by
  unfold mkAnd; split <;> simp [BE.den]

def mkEqb : BE → BE → BE
  | .lit true, b => b
  | .lit false, b => mkNeg b
  | b, .lit true => b
  | b, .lit false => mkNeg b
  | a, b => bif a.same b then .lit true else .eqb a b

theorem mkEqb_ok (env : Env) (a b : BE) : (mkEqb a b).den env = (a.den env == b.den env) := by
  unfold mkEqb
  split
  any_goals simp [BE.den, mkNeg_ok]; done
  cases h : a.same b
  · rfl
  · rw [BE.same_eq h]; simp [BE.den]

def lookK (be : BE) : List (BE × Bool) → Option Bool
  | [] => none
  | (be', v) :: l => if be.same be' then some v else lookK be l

theorem lookK_ok {env : Env} {be : BE} {l : List (BE × Bool)} (h : ∀ be v, (be, v) ∈ l → be.den env = v) {v : Bool} (hv : lookK be l = some v) : be.den env = v := by
  induction l with
  | nil => simp [lookK] at hv
  | cons x l ih =>
    obtain ⟨b', v'⟩ := x
    simp only [lookK] at hv
    split at hv
    · rename_i hs
      cases hv
      rw [BE.same_eq hs]
      exact h _ _ (by simp)
    · exact ih (fun be v hm => h be v (by simp [hm])) hv

/-- what is known of a test -/
def resolve (c : Ctx) : BE → Option Bool
  | .lit b => some b
  | .cmp o a b =>
    match lookK (.cmp o a b) c.k with
    | some v => some v
    | none => match bnd c a, bnd c b with
      | some x, some y => cmpB o x y
      | _, _ => none
  | .neg b => (resolve c b).map (!·)
  | .and a b => match resolve c a, resolve c b with
    | some false, _ => some false
    | _, some false => some false
    | some true, some true => some true
    | _, _ => none
  | .eqb a b => lookK (.eqb a b) c.k
  | .tst e => lookK (.tst e) c.k

theorem resolve_ok {env : Env} {c : Ctx} (hc : c.ok env) : ∀ {be : BE} {v : Bool}, resolve c be = some v → be.den env = v
  | .lit b, v, h => by simp [resolve] at h; simp [BE.den, h]
  | .cmp o a b, v, h => by
      simp only [resolve] at h
      split at h
      · rename_i w hw
        cases h
        exact lookK_ok hc.k hw
      · split at h
        · rename_i x y hx hy
          exact cmpB_ok (bnd_ok hc _ _ hx) (bnd_ok hc _ _ hy) h
        · simp at h
  | .neg b, v, h => by
      simp only [resolve, Option.map_eq_some_iff] at h
      obtain ⟨w, hw, rfl⟩ := h
      simp [BE.den, resolve_ok hc hw]
  | .and a b, v, h => by
      simp only [resolve] at h
      split at h
      · rename_i h1; cases h; simp [BE.den, resolve_ok hc h1]
      · cases h
        simp only [BE.den, Bool.and_eq_false_iff]
        exact Or.inr (resolve_ok hc (by assumption))
      · rename_i h1 h2; cases h; simp [BE.den, resolve_ok hc h1, resolve_ok hc h2]
      · simp at h
  | .eqb a b, v, h => lookK_ok hc.k h
  | .tst e, v, h => lookK_ok hc.k h

def addB (c : Ctx) (e : E) (r : Int × Int) : Ctx :=
  match e with
  | .lit _ => c
  | e => { c with b := (e, r) :: c.b }

theorem addB_ok {env : Env} {c : Ctx} (hc : c.ok env) {e : E} {r : Int × Int} (h : r.1 ≤ e.den env ∧ e.den env ≤ r.2) : (addB c e r).ok env := by
  unfold addB
  split
  · exact hc
  · refine ⟨?_, hc.k⟩
    intro e' lo hi hm
    simp only [List.mem_cons] at hm
    rcases hm with hm | hm
    · cases hm; exact h
    · exact hc.b _ _ _ hm

/-- ranges behind a comparison: (new range of a, new range of b) -/
def refine2 (o : BinOp) (v : Bool) (x y : Int × Int) : (Int × Int) × (Int × Int) :=
  match o, v with
  | .lss, true | .geq, false => ((x.1, min x.2 (y.2 - 1)), (max y.1 (x.1 + 1), y.2))
  | .lss, false | .geq, true => ((max x.1 y.1, x.2), (y.1, min y.2 x.2))
  | .leq, true | .gtr, false => ((x.1, min x.2 y.2), (max y.1 x.1, y.2))
  | .leq, false | .gtr, true => ((max x.1 (y.1 + 1), x.2), (y.1, min y.2 (x.2 - 1)))
  | .eql, true | .neq, false => ((max x.1 y.1, min x.2 y.2), (max x.1 y.1, min x.2 y.2))
  | .eql, false | .neq, true =>
    ((if y.1 = y.2 ∧ x.1 = y.1 then x.1 + 1 else x.1, if y.1 = y.2 ∧ x.2 = y.1 then x.2 - 1 else x.2),
     (if x.1 = x.2 ∧ y.1 = x.1 then y.1 + 1 else y.1, if x.1 = x.2 ∧ y.2 = x.1 then y.2 - 1 else y.2))
  | _, _ => (x, y)

theorem refine2_ok {o : BinOp} {v : Bool} {p q : Int × Int} {x y : Int} (hp : p.1 ≤ x ∧ x ≤ p.2) (hq : q.1 ≤ y ∧ y ≤ q.2) (h : cmpI o x y = v) :
    ((refine2 o v p q).1.1 ≤ x ∧ x ≤ (refine2 o v p q).1.2) ∧ ((refine2 o v p q).2.1 ≤ y ∧ y ≤ (refine2 o v p q).2.2) := by
  obtain ⟨a, b⟩ := p
  obtain ⟨c, d⟩ := q
  simp only at hp hq
  cases o <;> cases v <;> simp only [refine2] <;> simp [cmpI] at h <;> (try (refine ⟨⟨?_, ?_⟩, ⟨?_, ?_⟩⟩)) <;> (try simp only) <;> (try split) <;> omega

def assume (c : Ctx) : BE → Bool → Ctx
  | .lit _, _ => c
  | .neg b, v => assume c b (!v)
  | .and a b, true => assume (assume c a true) b true
  | .cmp o a b, v =>
    let c' : Ctx := { c with k := (.cmp o a b, v) :: c.k }
    match bnd c a, bnd c b with
    | some x, some y => let r := refine2 o v x y; addB (addB c' a r.1) b r.2
    | _, _ => c'
  | be, v => { c with k := (be, v) :: c.k }

theorem addK_ok {env : Env} {c : Ctx} (hc : c.ok env) {be : BE} {v : Bool} (h : be.den env = v) : ({ c with k := (be, v) :: c.k } : Ctx).ok env := by
  refine ⟨hc.b, ?_⟩
  intro b' v' hm
  simp only [List.mem_cons] at hm
  rcases hm with hm | hm
  · cases hm; exact h
  · exact hc.k _ _ hm

theorem assume_ok {env : Env} : ∀ {be : BE} {c : Ctx} {v : Bool}, c.ok env → be.den env = v → (assume c be v).ok env
  | .lit _, c, v, hc, _ => hc
  | .neg b, c, v, hc, h => by
      simp only [assume]
      exact assume_ok hc (by simp [BE.den] at h; simp [← h])
  | .and a b, c, true, hc, h => by
      simp only [assume]
      simp [BE.den] at h
      exact assume_ok (assume_ok hc h.1) h.2
  | .and a b, c, false, hc, h => addK_ok hc h
  | .cmp o a b, c, v, hc, h => by
      simp only [assume]
      split
      · rename_i x y hx hy
        have e := refine2_ok (bnd_ok hc _ _ hx) (bnd_ok hc _ _ hy) h
        exact addB_ok (addB_ok (addK_ok hc h) e.1) e.2
      · exact addK_ok hc h
  | .eqb a b, c, v, hc, h => addK_ok hc h
  | .tst e, c, v, hc, h => addK_ok hc h

end Go.SX

namespace Go.SX
open Go
set_option linter.unusedVariables false
set_option linter.unusedSimpArgs false

/-! ### linear forms -/

structure Lin where
  c : Int
  l : List (E × Int)

def denT (env : Env) : List (E × Int) → Int
  | [] => 0
  | (e, k) :: l => k * e.den env + denT env l
def Lin.den (env : Env) (L : Lin) : Int := L.c + denT env L.l

def addT (e : E) (k : Int) : List (E × Int) → List (E × Int)
  | [] => [(e, k)]
  | (e', k') :: l => bif e.same e' then (bif k + k' == 0 then l else (e', k + k') :: l) else (e', k') :: addT e k l

theorem addT_den {env : Env} {e : E} {k : Int} : ∀ {l : List (E × Int)}, denT env (addT e k l) = k * e.den env + denT env l
  | [] => rfl
  | (e', k') :: l => by
      simp only [addT]
      cases hs : e.same e' with
      | false => simp only [cond_false, denT]; rw [addT_den]; omega
      | true =>
        rw [E.same_eq hs]
        simp only [cond_true]
        cases hz : (k + k' == 0) with
        | true =>
          simp only [beq_iff_eq] at hz
          simp only [cond_true, denT]
          have : k * e'.den env + k' * e'.den env = 0 := by rw [← Int.add_mul, hz, Int.zero_mul]
          omega
        | false => simp only [cond_false, denT, Int.add_mul]; omega

def E.litI : E → Option Int
  | .lit n => some n
  | _ => none
theorem E.litI_eq {env : Env} {e : E} {n : Int} (h : e.litI = some n) : e.den env = n := by
  cases e <;> simp [E.litI] at h
  simp [E.den, h]

def lin : E → Int → Lin → Lin
  | .lit n, k, L => ⟨L.c + k * n, L.l⟩
  | .op .add a b, k, L => lin a k (lin b k L)
  | .op .sub a b, k, L => lin a k (lin b (-k) L)
  | .op .mul a b, k, L => match a.litI, b.litI with
    | some n, _ => lin b (k * n) L
    | none, some n => lin a (k * n) L
    | none, none => ⟨L.c, addT (.op .mul a b) k L.l⟩
  | e, k, L => ⟨L.c, addT e k L.l⟩

theorem lin_atom {env : Env} (e : E) (k : Int) (L : Lin) : Lin.den env ⟨L.c, addT e k L.l⟩ = k * e.den env + L.den env := by
  simp only [Lin.den, addT_den]; omega

theorem lin_den {env : Env} : ∀ (e : E) (k : Int) (L : Lin), (lin e k L).den env = k * e.den env + L.den env
  | .lit n, k, L => by simp [lin, Lin.den, E.den]; omega
  | .op .add a b, k, L => by simp only [lin]; rw [lin_den a, lin_den b]; simp only [E.den, O2.ev, Int.mul_add]; omega
  | .op .sub a b, k, L => by simp only [lin]; rw [lin_den a, lin_den b]; simp only [E.den, O2.ev, Int.mul_sub, Int.neg_mul]; omega
  | .op .mul a b, k, L => by
      simp only [lin]
      split
      · rename_i n hn
        rw [lin_den b]; simp only [E.den, O2.ev, E.litI_eq (env := env) hn]; rw [Int.mul_assoc]
      · rename_i n _ hn
        rw [lin_den a]; simp only [E.den, O2.ev, E.litI_eq (env := env) hn]; rw [Int.mul_assoc, Int.mul_comm n]
      · exact lin_atom _ k L
  | .op .tdiv a b, k, L => by simp only [lin]; exact lin_atom _ k L
  | .op .tmod a b, k, L => by simp only [lin]; exact lin_atom _ k L
  | .op .mx a b, k, L => by simp only [lin]; exact lin_atom _ k L
  | .op .mn a b, k, L => by simp only [lin]; exact lin_atom _ k L
  | .var i, k, L => by simp only [lin]; exact lin_atom _ k L
  | .bin o kd a b, k, L => by simp only [lin]; exact lin_atom _ k L
  | .conv kd a, k, L => by simp only [lin]; exact lin_atom _ k L
  | .app f l, k, L => by simp only [lin]; exact lin_atom _ k L
  | .ite c a b, k, L => by simp only [lin]; exact lin_atom _ k L
  | .cmp o a b, k, L => by simp only [lin]; exact lin_atom _ k L

def rangeT (cx : Ctx) : List (E × Int) → Option (Int × Int)
  | [] => some (0, 0)
  | (e, k) :: l => match bnd cx e, rangeT cx l with
    | some (a, b), some (x, y) => if 0 ≤ k then some (k * a + x, k * b + y) else some (k * b + x, k * a + y)
    | _, _ => none

theorem rangeT_ok {env : Env} {cx : Ctx} (hc : cx.ok env) : ∀ {l : List (E × Int)} {r : Int × Int}, rangeT cx l = some r → r.1 ≤ denT env l ∧ denT env l ≤ r.2
  | [], r, h => by simp only [rangeT, Option.some.injEq] at h; subst h; simp [denT]
  | (e, k) :: l, r, h => by
      simp only [rangeT] at h
      split at h
      · rename_i a b x y hb hr
        have h1 := bnd_ok hc _ _ hb
        have h2 := rangeT_ok hc hr
        simp only at h1 h2
        split at h
        · rename_i hk
          cases h
          simp only [denT]
          have := Int.mul_le_mul_of_nonneg_left h1.1 hk
          have := Int.mul_le_mul_of_nonneg_left h1.2 hk
          omega
        · rename_i hk
          cases h
          simp only [denT]
          have := Int.mul_le_mul_of_nonpos_left (a := k) (by omega) h1.1
          have := Int.mul_le_mul_of_nonpos_left (a := k) (by omega) h1.2
          omega
      · cases h

/-- a - b + s -/
def leOf (a b : E) (s : Int) : Lin := lin a 1 (lin b (-1) ⟨s, []⟩)
theorem leOf_den (env : Env) (a b : E) (s : Int) : (leOf a b s).den env = a.den env - b.den env + s := by
  unfold leOf; rw [lin_den, lin_den]; simp [Lin.den, denT]; omega

/-- what a known test says: forms that are at most 0 -/
def factL : BE × Bool → List Lin
  | (.cmp o a b, v) => match o, v with
    | .lss, true | .geq, false => [leOf a b 1]
    | .leq, true | .gtr, false => [leOf a b 0]
    | .gtr, true | .leq, false => [leOf b a 1]
    | .geq, true | .lss, false => [leOf b a 0]
    | .eql, true | .neq, false => [leOf a b 0, leOf b a 0]
    | _, _ => []
  | _ => []

theorem factL_ok {env : Env} {be : BE} {v : Bool} (h : be.den env = v) : ∀ L, L ∈ factL (be, v) → L.den env ≤ 0 := by
  intro L hm
  cases be <;> try (simp [factL] at hm; done)
  rename_i o a b
  simp only [BE.den] at h
  cases o <;> cases v <;> simp only [factL, List.mem_cons, List.not_mem_nil, or_false] at hm <;> simp [cmpI] at h
  all_goals first
    | (subst hm; rw [leOf_den]; omega)
    | (rcases hm with rfl | rfl <;> rw [leOf_den] <;> omega)

def factsL : List (BE × Bool) → List Lin
  | [] => []
  | p :: l => factL p ++ factsL l
theorem factsL_ok {env : Env} : ∀ {l : List (BE × Bool)}, (∀ be v, (be, v) ∈ l → be.den env = v) → ∀ L, L ∈ factsL l → L.den env ≤ 0
  | [], h, L, hm => by simp [factsL] at hm
  | (be, v) :: l, h, L, hm => by
      simp only [factsL, List.mem_append] at hm
      rcases hm with hm | hm
      · exact factL_ok (h be v (by simp)) L hm
      · exact factsL_ok (fun be v hm => h be v (by simp [hm])) L hm

def subT : List (E × Int) → List (E × Int) → List (E × Int)
  | l, [] => l
  | l, (e, k) :: r => subT (addT e (-k) l) r
theorem subT_den {env : Env} : ∀ {r l : List (E × Int)}, denT env (subT l r) = denT env l - denT env r
  | [], l => by simp [subT, denT]
  | (e, k) :: r, l => by simp only [subT, subT_den, addT_den, denT, Int.neg_mul]; omega
def subL (L F : Lin) : Lin := ⟨L.c - F.c, subT L.l F.l⟩
theorem subL_den {env : Env} (L F : Lin) : (subL L F).den env = L.den env - F.den env := by
  simp only [subL, Lin.den, subT_den]; omega

def leR (cx : Ctx) (L : Lin) : Bool := match rangeT cx L.l with
  | some r => decide (L.c + r.2 ≤ 0)
  | none => false

def leZ (cx : Ctx) (fs : List Lin) : Nat → Lin → Bool
  | 0, L => leR cx L
  | d + 1, L => leR cx L || fs.any fun F => Nat.blt (subT L.l F.l).length (L.l.length + F.l.length) && leZ cx fs d (subL L F)

theorem leR_ok {env : Env} {cx : Ctx} (hc : cx.ok env) {L : Lin} (h : leR cx L = true) : L.den env ≤ 0 := by
  unfold leR at h
  split at h
  · rename_i r hr
    have := rangeT_ok hc hr
    simp only [decide_eq_true_eq] at h
    simp only [Lin.den]; omega
  · cases h

theorem leZ_ok {env : Env} {cx : Ctx} (hc : cx.ok env) {fs : List Lin} (hf : ∀ F, F ∈ fs → F.den env ≤ 0) : ∀ {d : Nat} {L : Lin}, leZ cx fs d L = true → L.den env ≤ 0
  | 0, L, h => leR_ok hc h
  | d + 1, L, h => by
      simp only [leZ, Bool.or_eq_true] at h
      rcases h with h | h
      · exact leR_ok hc h
      · rw [List.any_eq_true] at h
        obtain ⟨F, hm, h⟩ := h
        simp only [Bool.and_eq_true] at h
        have h1 := leZ_ok hc hf h.2
        rw [subL_den] at h1
        have := hf F hm
        omega

def cmpL (cx : Ctx) (d : Nat) (o : BinOp) (a b : E) : Option Bool :=
  let fs := factsL cx.k
  let lt (a b : E) : Bool := leZ cx fs d (leOf a b 1)
  let le (a b : E) : Bool := leZ cx fs d (leOf a b 0)
  match o with
  | .lss => bif lt a b then some true else bif le b a then some false else none
  | .leq => bif le a b then some true else bif lt b a then some false else none
  | .gtr => bif lt b a then some true else bif le a b then some false else none
  | .geq => bif le b a then some true else bif lt a b then some false else none
  | .eql => bif lt a b || lt b a then some false else bif le a b && le b a then some true else none
  | .neq => bif lt a b || lt b a then some true else bif le a b && le b a then some false else none
  | _ => none

theorem cmpL_ok {env : Env} {cx : Ctx} (hc : cx.ok env) {d : Nat} {o : BinOp} {a b : E} {v : Bool} (h : cmpL cx d o a b = some v) : cmpI o (a.den env) (b.den env) = v := by
  have hf := factsL_ok hc.k
  have lt : ∀ a b : E, leZ cx (factsL cx.k) d (leOf a b 1) = true → a.den env < b.den env := by
    intro a b h
    have := leZ_ok hc hf h
    rw [leOf_den] at this; omega
  have le : ∀ a b : E, leZ cx (factsL cx.k) d (leOf a b 0) = true → a.den env ≤ b.den env := by
    intro a b h
    have := leZ_ok hc hf h
    rw [leOf_den] at this; omega
  have l1 := lt a b
  have l2 := lt b a
  have l3 := le a b
  have l4 := le b a
  simp only [cmpL] at h
  generalize leZ cx (factsL cx.k) d (leOf a b 1) = p1 at *
  generalize leZ cx (factsL cx.k) d (leOf b a 1) = p2 at *
  generalize leZ cx (factsL cx.k) d (leOf a b 0) = p3 at *
  generalize leZ cx (factsL cx.k) d (leOf b a 0) = p4 at *
  cases o <;> simp only at h <;> (try (cases h; done)) <;> cases p1 <;> cases p2 <;> cases p3 <;> cases p4 <;> simp at h l1 l2 l3 l4 <;> (try subst h) <;> simp [cmpI] <;> omega

/-! ### joined values -/

def mkIte (c a b : E) : E :=
  match c.litI with
  | some n => bif n == 0 then b else a
  | none => bif a.same b then a else .ite c a b
theorem mkIte_ok (env : Env) (c a b : E) : (mkIte c a b).den env = bif c.den env == 0 then b.den env else a.den env := by
  unfold mkIte
  split
  · rename_i n hn
    rw [E.litI_eq (env := env) hn]
    cases n == 0 <;> rfl
  · cases hs : a.same b with
    | true => rw [E.same_eq hs]; simp
    | false => rfl

def BE.toE : BE → E
  | .lit b => .lit (bif b then 1 else 0)
  | .cmp o a b => .cmp o a b
  | .neg b => mkIte b.toE (.lit 0) (.lit 1)
  | .and a b => mkIte a.toE b.toE (.lit 0)
  | .eqb a b => mkIte a.toE b.toE (mkIte b.toE (.lit 0) (.lit 1))
  | .tst e => .ite e (.lit 1) (.lit 0)
theorem toE_ok (env : Env) : ∀ b : BE, b.toE.den env = bif b.den env then 1 else 0
  | .lit b => by cases b <;> rfl
  | .cmp o a b => rfl
  | .neg b => by simp only [BE.toE, mkIte_ok, toE_ok env b, BE.den]; cases b.den env <;> rfl
  | .and a b => by simp only [BE.toE, mkIte_ok, toE_ok env a, toE_ok env b, BE.den]; cases a.den env <;> cases b.den env <;> rfl
  | .eqb a b => by simp only [BE.toE, mkIte_ok, toE_ok env a, toE_ok env b, BE.den]; cases a.den env <;> cases b.den env <;> rfl
  | .tst e => by
      simp only [BE.toE, E.den, BE.den, bne]
      cases e.den env == 0 <;> rfl

def isLit (e : E) (n : Int) : Bool := match e.litI with
  | some m => m == n
  | none => false
theorem isLit_ok {env : Env} {e : E} {n : Int} (h : isLit e n = true) : e.den env = n := by
  unfold isLit at h
  split at h
  · rename_i m hm; rw [E.litI_eq hm]; simpa using h
  · cases h

/-- an expression as a test: is it not 0 -/
def E.toB : E → BE
  | .lit n => .lit (n != 0)
  | .cmp o a b => .cmp o a b
  | .ite c a b =>
    bif isLit a 0 && isLit b 1 then mkNeg c.toB
    else bif isLit a 1 && isLit b 0 then c.toB
    else bif isLit b 0 then mkAnd c.toB a.toB
    else .tst (.ite c a b)
  | e => .tst e
theorem toB_ok (env : Env) : ∀ e : E, e.toB.den env = (e.den env != 0)
  | .lit n => rfl
  | .cmp o a b => by simp only [E.toB, BE.den, E.den]; cases cmpI o (a.den env) (b.den env) <;> rfl
  | .ite c a b => by
      simp only [E.toB]
      have hcB := toB_ok env c
      have haB := toB_ok env a
      cases h1 : (isLit a 0 && isLit b 1) with
      | true =>
        simp only [Bool.and_eq_true] at h1
        simp only [cond_true, mkNeg_ok, hcB, E.den, isLit_ok (env := env) h1.1, isLit_ok (env := env) h1.2, bne]
        cases c.den env == 0 <;> rfl
      | false =>
        simp only [cond_false]
        cases h2 : (isLit a 1 && isLit b 0) with
        | true =>
          simp only [Bool.and_eq_true] at h2
          simp only [cond_true, hcB, E.den, isLit_ok (env := env) h2.1, isLit_ok (env := env) h2.2, bne]
          cases c.den env == 0 <;> rfl
        | false =>
          simp only [cond_false]
          cases h3 : isLit b 0 with
          | true =>
            simp only [cond_true, mkAnd_ok, hcB, haB, E.den, isLit_ok (env := env) h3, bne]
            cases h4 : (c.den env == 0) <;> cases h5 : (a.den env == 0) <;> simp [h5]
          | false => rfl
  | .var i => rfl
  | .op o a b => rfl
  | .bin o k a b => rfl
  | .conv k a => rfl
  | .app f l => rfl

/-- what is known of a test, by ranges and by one known test -/
def resolveL (cx : Ctx) : BE → Option Bool
  | .cmp o a b => match resolve cx (.cmp o a b) with
    | some v => some v
    | none => cmpL cx 1 o a b
  | .neg b => (resolveL cx b).map (!·)
  | .and a b => match resolveL cx a, resolveL cx b with
    | some false, _ => some false
    | _, some false => some false
    | some true, some true => some true
    | _, _ => none
  | .eqb a b => match resolve cx (.eqb a b) with
    | some v => some v
    | none => match resolveL cx a, resolveL cx b with
      | some x, some y => some (x == y)
      | _, _ => none
  | b => resolve cx b

theorem resolveL_ok {env : Env} {cx : Ctx} (hc : cx.ok env) : ∀ {be : BE} {v : Bool}, resolveL cx be = some v → be.den env = v
  | .cmp o a b, v, h => by
      simp only [resolveL] at h
      split at h
      · rename_i w hw; cases h; exact resolve_ok hc hw
      · exact cmpL_ok hc h
  | .neg b, v, h => by
      simp only [resolveL, Option.map_eq_some_iff] at h
      obtain ⟨w, hw, rfl⟩ := h
      simp [BE.den, resolveL_ok hc hw]
  | .and a b, v, h => by
      simp only [resolveL] at h
      split at h
      · rename_i h1; cases h; simp [BE.den, resolveL_ok hc h1]
      · cases h
        simp only [BE.den, Bool.and_eq_false_iff]
        exact Or.inr (resolveL_ok hc (by assumption))
      · rename_i h1 h2; cases h; simp [BE.den, resolveL_ok hc h1, resolveL_ok hc h2]
      · simp at h
  | .eqb a b, v, h => by
      simp only [resolveL] at h
      split at h
      · rename_i w hw; cases h; exact resolve_ok hc hw
      · split at h
        · rename_i x y hx hy
          cases h
          simp [BE.den, resolveL_ok hc hx, resolveL_ok hc hy]
        · cases h
  | .lit b, v, h => resolve_ok hc h
  | .tst e, v, h => resolve_ok hc h

def mkML (cx : Ctx) (o : O2) (a b : E) : E :=
  match o with
  | .mx => match resolveL cx (mkCmp cx .leq a b) with
    | some true => b
    | some false => a
    | none => .op .mx a b
  | .mn => match resolveL cx (mkCmp cx .leq a b) with
    | some true => a
    | some false => b
    | none => .op .mn a b
  | o => mkO2 o a b
theorem mkML_ok {env : Env} {cx : Ctx} (hc : cx.ok env) (o : O2) (a b : E) : (mkML cx o a b).den env = o.ev (a.den env) (b.den env) := by
  have key : ∀ v, resolveL cx (mkCmp cx .leq a b) = some v → decide (a.den env ≤ b.den env) = v := by
    intro v h
    have := resolveL_ok hc h
    rw [mkCmp_ok hc] at this
    exact this
  cases o <;> simp only [mkML] <;> try exact mkO2_ok env _ a b
  · split
    · rename_i h; have := key _ h; simp at this; simp only [O2.ev]; split <;> omega
    · rename_i h; have := key _ h; simp at this; simp only [O2.ev]; split <;> omega
    · rfl
  · split
    · rename_i h; have := key _ h; simp at this; simp only [O2.ev]; split <;> omega
    · rename_i h; have := key _ h; simp at this; simp only [O2.ev]; split <;> omega
    · rfl

mutual
def simpE (cx : Ctx) : E → E
  | .lit n => .lit n
  | .var i => .var i
  | .op o a b => mkML cx o (simpE cx a) (simpE cx b)
  | .bin o k a b => mkBin cx o k (simpE cx a) (simpE cx b)
  | .conv k a => mkConv cx k (simpE cx a)
  | .app f l => .app f (simpEL cx l)
  | .ite c a b => match resolveL cx (simpE cx c).toB with
    | some true => simpE cx a
    | some false => simpE cx b
    | none => mkIte (simpE cx c) (simpE cx a) (simpE cx b)
  | .cmp o a b => match resolveL cx (mkCmp cx o (simpE cx a) (simpE cx b)) with
    | some true => .lit 1
    | some false => .lit 0
    | none => .cmp o (simpE cx a) (simpE cx b)
def simpEL (cx : Ctx) : List E → List E
  | [] => []
  | e :: l => simpE cx e :: simpEL cx l
end

mutual
theorem simpE_ok {env : Env} {cx : Ctx} (hc : cx.ok env) : ∀ e : E, (simpE cx e).den env = e.den env
  | .lit n => rfl
  | .var i => rfl
  | .op o a b => by simp only [simpE, mkML_ok hc, simpE_ok hc a, simpE_ok hc b, E.den]
  | .bin o k a b => by simp only [simpE, mkBin_ok hc, simpE_ok hc a, simpE_ok hc b, E.den]
  | .conv k a => by simp only [simpE, mkConv_ok hc, simpE_ok hc a, E.den]
  | .app f l => by simp only [simpE, E.den, simpEL_ok hc l]
  | .ite c a b => by
      simp only [simpE]
      split
      · rename_i h
        have := resolveL_ok hc h
        rw [toB_ok, simpE_ok hc c] at this
        simp only [E.den, simpE_ok hc a]
        cases h0 : (c.den env == 0) with
        | true => simp [bne, h0] at this
        | false => rfl
      · rename_i h
        have := resolveL_ok hc h
        rw [toB_ok, simpE_ok hc c] at this
        simp only [E.den, simpE_ok hc b]
        cases h0 : (c.den env == 0) with
        | true => rfl
        | false => simp [bne, h0] at this
      · rw [mkIte_ok, simpE_ok hc a, simpE_ok hc b, simpE_ok hc c]; rfl
  | .cmp o a b => by
      simp only [simpE]
      split
      · rename_i h
        have := resolveL_ok hc h
        rw [mkCmp_ok hc, simpE_ok hc a, simpE_ok hc b] at this
        simp only [E.den, this]; rfl
      · rename_i h
        have := resolveL_ok hc h
        rw [mkCmp_ok hc, simpE_ok hc a, simpE_ok hc b] at this
        simp only [E.den, this]; rfl
      · simp only [E.den, simpE_ok hc a, simpE_ok hc b]
theorem simpEL_ok {env : Env} {cx : Ctx} (hc : cx.ok env) : ∀ l : List E, denL env (simpEL cx l) = denL env l
  | [] => rfl
  | e :: l => by simp only [simpEL, denL, simpE_ok hc e, simpEL_ok hc l]
end

def simpB (cx : Ctx) : BE → BE
  | .lit b => .lit b
  | .cmp o a b => mkCmp cx o (simpE cx a) (simpE cx b)
  | .neg b => mkNeg (simpB cx b)
  | .and a b => mkAnd (simpB cx a) (simpB cx b)
  | .eqb a b => mkEqb (simpB cx a) (simpB cx b)
  | .tst e => (simpE cx e).toB
theorem simpB_ok {env : Env} {cx : Ctx} (hc : cx.ok env) : ∀ b : BE, (simpB cx b).den env = b.den env
  | .lit b => rfl
  | .cmp o a b => by simp only [simpB, mkCmp_ok hc, simpE_ok hc, BE.den]
  | .neg b => by simp only [simpB, mkNeg_ok, simpB_ok hc b, BE.den]
  | .and a b => by simp only [simpB, mkAnd_ok, simpB_ok hc a, simpB_ok hc b, BE.den]
  | .eqb a b => by simp only [simpB, mkEqb_ok, simpB_ok hc a, simpB_ok hc b, BE.den]
  | .tst e => by simp only [simpB, toB_ok, simpE_ok hc, BE.den]

/-- a test on which an expression depends: the innermost first -/
def orE (a b : Option BE) : Option BE := match a with
  | some x => some x
  | none => b
def BE.atom : BE → BE
  | .neg b => b.atom
  | .and a _ => a.atom
  | .eqb a _ => a.atom
  | b => b
mutual
def splitE : E → Option BE
  | .ite c a b => orE (splitE c) (some c.toB.atom)
  | .op o a b => orE (splitE a) (orE (splitE b) (match o with
    | .mx | .mn => some (.cmp .leq a b)
    | _ => none))
  | .bin _ _ a b => orE (splitE a) (splitE b)
  | .cmp _ a b => orE (splitE a) (splitE b)
  | .conv _ a => splitE a
  | .app _ l => splitEL l
  | _ => none
def splitEL : List E → Option BE
  | [] => none
  | e :: l => orE (splitE e) (splitEL l)
end
def splitB : BE → Option BE
  | .cmp _ a b => orE (splitE a) (splitE b)
  | .neg b => splitB b
  | .and a b => orE (orE (splitB a) (splitB b)) (some a.atom)
  | .eqb a b => orE (orE (splitB a) (splitB b)) (some a.atom)
  | .tst e => splitE e
  | .lit _ => none

/-- no number can be so -/
def deadC (cx : Ctx) : Bool := match cx.b with
  | (_, a, b) :: (_, c, d) :: _ => decide (b < a) || decide (d < c)
  | [(_, a, b)] => decide (b < a)
  | [] => false
theorem deadC_ok {env : Env} {cx : Ctx} (hc : cx.ok env) (h : deadC cx = true) : False := by
  obtain ⟨b, k⟩ := cx
  simp only [deadC] at h
  have hb := hc.b
  match b, h with
  | (e, a, b) :: (e', c, d) :: l, h =>
    have h1 := hb e a b (by simp)
    have h2 := hb e' c d (by simp)
    simp at h
    omega
  | [(e, a, b)], h =>
    have h1 := hb e a b (by simp)
    simp at h
    omega

/-- what a test says of the tests inside of its joined values -/
def assumeJ : Nat → Ctx → BE → Bool → Ctx
  | 0, cx, be, v => assume cx be v
  | n + 1, cx, .neg b, v => assumeJ n cx b (!v)
  | n + 1, cx, .and a b, true => assumeJ n (assumeJ n cx a true) b true
  | n + 1, cx, .tst e, v => match e with
    | .ite c a b =>
      let cx' := assume cx (.tst e) v
      match resolveL cx b.toB with
      | some w => bif w == !v then assumeJ n (assumeJ n cx' c.toB true) a.toB v else cx'
      | none => match resolveL cx a.toB with
        | some w => bif w == !v then assumeJ n (assumeJ n cx' c.toB false) b.toB v else cx'
        | none => cx'
    | e => assume cx (.tst e) v
  | n + 1, cx, .cmp o x y, v =>
    let cx' := assume cx (.cmp o x y) v
    match x, y with
    | .ite c a b, y => (match resolveL cx (mkCmp cx o b y) with
      | some w => bif w == !v then assumeJ n (assumeJ n cx' c.toB true) (mkCmp cx o a y) v else cx'
      | none => match resolveL cx (mkCmp cx o a y) with
        | some w => bif w == !v then assumeJ n (assumeJ n cx' c.toB false) (mkCmp cx o b y) v else cx'
        | none => cx')
    | x, .ite c a b => (match resolveL cx (mkCmp cx o x b) with
      | some w => bif w == !v then assumeJ n (assumeJ n cx' c.toB true) (mkCmp cx o x a) v else cx'
      | none => match resolveL cx (mkCmp cx o x a) with
        | some w => bif w == !v then assumeJ n (assumeJ n cx' c.toB false) (mkCmp cx o x b) v else cx'
        | none => cx')
    | _, _ => cx'
  | n + 1, cx, be, v => assume cx be v

theorem assumeJ_ok {env : Env} : ∀ (n : Nat) {cx : Ctx} {be : BE} {v : Bool}, cx.ok env → be.den env = v → (assumeJ n cx be v).ok env := by
  intro n
  induction n with
  | zero => intro cx be v hc h; exact assume_ok hc h
  | succ n ih =>
    intro cx be v hc h
    -- the way through one joined value
    have way : ∀ (c a b : E) (f : E → BE) (cx' : Ctx), cx'.ok env → (∀ e, (f e).den env = (f (.lit (e.den env))).den env) → (f (.ite c a b)).den env = v →
        (∀ w, resolveL cx (f b) = some w → w = (!v) → (assumeJ n (assumeJ n cx' c.toB true) (f a) v).ok env) ∧
        (∀ w, resolveL cx (f a) = some w → w = (!v) → (assumeJ n (assumeJ n cx' c.toB false) (f b) v).ok env) := by
      intro c a b f cx' hc' hf hv
      rw [hf] at hv
      simp only [E.den] at hv
      constructor
      · intro w hw hwv
        have h1 := resolveL_ok hc hw
        rw [hf] at h1
        cases h0 : (c.den env == 0) with
        | true =>
          rw [h0, cond_true, h1, hwv] at hv
          cases v <;> cases hv
        | false =>
          rw [h0, cond_false, ← hf] at hv
          exact ih (ih hc' (by rw [toB_ok, bne, h0]; rfl)) hv
      · intro w hw hwv
        have h1 := resolveL_ok hc hw
        rw [hf] at h1
        cases h0 : (c.den env == 0) with
        | false =>
          rw [h0, cond_false, h1, hwv] at hv
          cases v <;> cases hv
        | true =>
          rw [h0, cond_true, ← hf] at hv
          exact ih (ih hc' (by rw [toB_ok, bne, h0]; rfl)) hv
    cases be with
    | lit b => exact assume_ok hc h
    | eqb a b => exact assume_ok hc h
    | neg b =>
      simp only [assumeJ]
      exact ih hc (by simp only [BE.den] at h; rw [← h]; simp)
    | and a b =>
      cases v with
      | false => exact assume_ok hc h
      | true =>
        simp only [assumeJ]
        simp only [BE.den, Bool.and_eq_true] at h
        exact ih (ih hc h.1) h.2
    | tst e =>
      cases e with
      | ite c a b =>
        simp only [assumeJ]
        have w := way c a b (fun e => e.toB) (assume cx (.tst (.ite c a b)) v) (assume_ok hc h) (fun e => by simp only [toB_ok, E.den]) (by rw [toB_ok]; exact h)
        split
        · rename_i x hx
          cases hb : (x == !v) with
          | false => exact assume_ok hc h
          | true => exact w.1 x hx (by simpa using hb)
        · split
          · rename_i x hx
            cases hb : (x == !v) with
            | false => exact assume_ok hc h
            | true => exact w.2 x hx (by simpa using hb)
          · exact assume_ok hc h
      | lit | var | op | bin | conv | app | cmp => exact assume_ok hc h
    | cmp o x y =>
      simp only [assumeJ]
      have hA := assume_ok (env := env) hc h
      split
      · rename_i c a b
        have w := way c a b (fun e => mkCmp cx o e y) (assume cx (.cmp o (.ite c a b) y) v) hA (fun e => by simp only [mkCmp_ok hc, E.den]) (by rw [mkCmp_ok hc]; exact h)
        split
        · rename_i z hz
          cases hb : (z == !v) with
          | false => exact hA
          | true => exact w.1 z hz (by simpa using hb)
        · split
          · rename_i z hz
            cases hb : (z == !v) with
            | false => exact hA
            | true => exact w.2 z hz (by simpa using hb)
          · exact hA
      · rename_i c a b _
        have w := way c a b (fun e => mkCmp cx o x e) (assume cx (.cmp o x (.ite c a b)) v) hA (fun e => by simp only [mkCmp_ok hc, E.den]) (by rw [mkCmp_ok hc]; exact h)
        split
        · rename_i z hz
          cases hb : (z == !v) with
          | false => exact hA
          | true => exact w.1 z hz (by simpa using hb)
        · split
          · rename_i z hz
            cases hb : (z == !v) with
            | false => exact hA
            | true => exact w.2 z hz (by simpa using hb)
          · exact hA
      · exact hA

/-- a test decided by up to three known ones -/
def resolveD (cx : Ctx) : BE → Option Bool
  | .cmp o a b => cmpL cx 3 o a b
  | .neg b => (resolveD cx b).map (!·)
  | b => resolveL cx b
theorem resolveD_ok {env : Env} {cx : Ctx} (hc : cx.ok env) : ∀ {be : BE} {v : Bool}, resolveD cx be = some v → be.den env = v
  | .cmp o a b, v, h => cmpL_ok hc h
  | .neg b, v, h => by
      simp only [resolveD, Option.map_eq_some_iff] at h
      obtain ⟨w, h1, rfl⟩ := h
      simp only [BE.den, resolveD_ok hc h1]
  | .lit b, v, h => resolveL_ok hc h
  | .and a b, v, h => resolveL_ok hc h
  | .eqb a b, v, h => resolveL_ok hc h
  | .tst e, v, h => resolveL_ok hc h

/-- a test decided by cases: the same answer on all ways that can be -/
def byCases : Nat → Ctx → BE → Option Bool
  | 0, cx, b => resolveL cx (simpB cx b)
  | n + 1, cx, b =>
    let b' := simpB cx b
    match resolveL cx b' with
    | some v => some v
    | none => match splitB b' with
      | none => resolveD cx b'
      | some s => match resolveD cx s with
        | some v => byCases n (assumeJ 50 cx s v) b'
        | none =>
        let c1 := assumeJ 50 cx s true
        let c2 := assumeJ 50 cx s false
        bif deadC c1 then byCases n c2 b'
        else bif deadC c2 then byCases n c1 b'
        else match byCases n c1 b' with
          | none => none
          | some v => match byCases n c2 b' with
            | some w => bif v == w then some v else none
            | none => none

theorem byCases_ok {env : Env} : ∀ (n : Nat) {cx : Ctx} {b : BE} {v : Bool}, cx.ok env → byCases n cx b = some v → b.den env = v
  | 0, cx, b, v, hc, h => by rw [← simpB_ok hc]; exact resolveL_ok hc h
  | n + 1, cx, b, v, hc, h => by
      simp only [byCases] at h
      rw [← simpB_ok hc]
      split at h
      · rename_i w hw; cases h; exact resolveL_ok hc hw
      · split at h
        · exact resolveD_ok hc h
        · rename_i s hs
          split at h
          · rename_i w hw
            exact byCases_ok n (assumeJ_ok 50 hc (resolveD_ok hc hw)) h
          have hT : s.den env = true → (assumeJ 50 cx s true).ok env := fun e => assumeJ_ok 50 hc e
          have hF : s.den env = false → (assumeJ 50 cx s false).ok env := fun e => assumeJ_ok 50 hc e
          cases hd1 : deadC (assumeJ 50 cx s true) with
          | true =>
            rw [hd1, cond_true] at h
            cases hv : s.den env with
            | true => exact (deadC_ok (hT hv) hd1).elim
            | false => exact byCases_ok n (hF hv) h
          | false =>
            rw [hd1, cond_false] at h
            cases hd2 : deadC (assumeJ 50 cx s false) with
            | true =>
              rw [hd2, cond_true] at h
              cases hv : s.den env with
              | false => exact (deadC_ok (hF hv) hd2).elim
              | true => exact byCases_ok n (hT hv) h
            | false =>
              rw [hd2, cond_false] at h
              split at h
              · cases h
              · rename_i x hx
                split at h
                · rename_i y hy
                  cases hxy : (x == y) with
                  | false => rw [hxy, cond_false] at h; cases h
                  | true =>
                    rw [hxy, cond_true] at h
                    cases h
                    cases hv : s.den env with
                    | true => exact byCases_ok n (hT hv) hx
                    | false =>
                      have := byCases_ok n (hF hv) hy
                      rw [this]
                      exact (eq_of_beq hxy).symm
                · cases h

/-- a test decided, or as it stands -/
def resolveJ (cx : Ctx) (b : BE) : Option Bool := match resolve cx b with
  | some v => some v
  | none => byCases cx.d cx b
theorem resolveJ_ok {env : Env} {cx : Ctx} (hc : cx.ok env) {b : BE} {v : Bool} (h : resolveJ cx b = some v) : b.den env = v := by
  unfold resolveJ at h
  split at h
  · rename_i w hw; cases h; exact resolve_ok hc hw
  · exact byCases_ok _ hc h

/-- a test that is decided, or as it stands -/
def seenC (cx : Ctx) (b : BE) : BE := match resolveJ cx b with
  | some v => .lit v
  | none => b
theorem seenC_ok {env : Env} {cx : Ctx} (hc : cx.ok env) (b : BE) : (seenC cx b).den env = b.den env := by
  unfold seenC
  split
  · rename_i v hv; rw [resolveJ_ok hc hv]; rfl
  · rfl
end Go.SX

namespace Go.SX
set_option linter.unusedVariables false

/-- an integer as a natural number -/
def zig (x : Int) : Nat := if 0 ≤ x then 2 * x.toNat else 2 * (-x).toNat + 1
theorem zig_inj {x y : Int} (h : zig x = zig y) : x = y := by
  unfold zig at h
  split at h <;> split at h <;> omega
/-- a list as a natural number -/
def encN : List Int → Nat
  | [] => 0
  | x :: l => 2 ^ zig x * (2 * encN l + 1)
theorem two_pow_odd {a b c d : Nat} (h : 2 ^ a * (2 * b + 1) = 2 ^ c * (2 * d + 1)) : a = c ∧ b = d := by
  induction a generalizing c with
  | zero =>
    cases c with
    | zero => simp at h; exact ⟨rfl, by omega⟩
    | succ c =>
      exfalso
      rw [Nat.pow_zero, Nat.one_mul, Nat.pow_succ, Nat.mul_comm (2 ^ c) 2, Nat.mul_assoc] at h
      omega
  | succ a ih =>
    cases c with
    | zero =>
      exfalso
      rw [Nat.pow_zero, Nat.one_mul, Nat.pow_succ, Nat.mul_comm (2 ^ a) 2, Nat.mul_assoc] at h
      omega
    | succ c =>
      rw [Nat.pow_succ, Nat.mul_comm (2 ^ a) 2, Nat.mul_assoc, Nat.pow_succ, Nat.mul_comm (2 ^ c) 2, Nat.mul_assoc] at h
      obtain ⟨h1, h2⟩ := ih (c := c) (by omega)
      exact ⟨by omega, h2⟩
theorem encN_inj : ∀ {l l' : List Int}, encN l = encN l' → l = l'
  | [], [], _ => rfl
  | [], x :: l, h => by
      have := Nat.mul_pos (Nat.two_pow_pos (zig x)) (show 0 < 2 * encN l + 1 by omega)
      simp only [encN] at h
      omega
  | x :: l, [], h => by
      have := Nat.mul_pos (Nat.two_pow_pos (zig x)) (show 0 < 2 * encN l + 1 by omega)
      simp only [encN] at h
      omega
  | x :: l, y :: l', h => by
      simp only [encN] at h
      obtain ⟨h1, h2⟩ := two_pow_odd h
      rw [zig_inj h1, encN_inj h2]
/-- the code of a list -/
def enc (l : List Int) : Int := (encN l : Nat)
theorem enc_inj {l l' : List Int} (h : enc l = enc l') : l = l' := encN_inj (by unfold enc at h; omega)
open Classical in
/-- the list with a code -/
noncomputable def dec (c : Int) : List Int := if h : ∃ l, enc l = c then Classical.choose h else []
theorem dec_enc (l : List Int) : dec (enc l) = l := by
  have h : ∃ l', enc l' = enc l := ⟨l, rfl⟩
  unfold dec
  rw [dif_pos h]
  exact enc_inj (Classical.choose_spec h)

/-- element j of item i, of items of m cells -/
noncomputable def rowGet (m j : Nat) (c i : Int) : Int := (dec c).getD (m * i.toNat + j) 0
/-- what the names 1000 to 4999 of functions stand for -/
noncomputable def rowOp (k : Nat) (a : List Int) : Int :=
  if k = 1000 then enc a                                                                    -- a list of these
  else if k = 1001 then enc (dec (a.getD 0 0) ++ a.drop 1)                                  -- more behind it
  else if k = 1002 then enc ((dec (a.getD 0 0)).set (a.getD 1 0).toNat (a.getD 2 0))        -- one cell set
  else if k = 1003 then enc (List.replicate (a.getD 0 0).toNat 0)                           -- zeros
  else if k = 1004 then enc (dec (a.getD 0 0) ++ dec (a.getD 1 0))                          -- one behind the other
  else if k = 1005 then enc (((dec (a.getD 0 0)).drop (a.getD 1 0).toNat).take (a.getD 2 0).toNat)  -- so many from a place on
  else if k = 1006 then ((dec (a.getD 0 0)).length : Int)                                   -- how many cells
  else if 1100 ≤ k ∧ k < 4300 then rowGet ((k - 1100) / 100) ((k - 1100) % 100) (a.getD 0 0) (a.getD 1 0)
  else 0
def RowFn (f : Nat → List Int → Int) : Prop := ∀ k a, 1000 ≤ k → k < 5000 → f k a = rowOp k a
/-- functions beside those of rows -/
noncomputable def rowed (f : Nat → List Int → Int) : Nat → List Int → Int := fun k a => if 1000 ≤ k ∧ k < 5000 then rowOp k a else f k a
theorem rowed_rows (f : Nat → List Int → Int) : RowFn (rowed f) := fun k a h1 h2 => if_pos ⟨h1, h2⟩
theorem rowed_low {f : Nat → List Int → Int} {k : Nat} {a : List Int} (h : k < 1000) : rowed f k a = f k a := if_neg (by omega)
theorem rowOp_lit (a : List Int) : rowOp 1000 a = enc a := rfl
theorem rowOp_snoc (c : Int) (xs : List Int) : rowOp 1001 (c :: xs) = enc (dec c ++ xs) := rfl
theorem rowOp_set (c p x : Int) : rowOp 1002 [c, p, x] = enc ((dec c).set p.toNat x) := rfl
theorem rowOp_zeros (n : Int) : rowOp 1003 [n] = enc (List.replicate n.toNat 0) := rfl
theorem rowOp_cat (c d : Int) : rowOp 1004 [c, d] = enc (dec c ++ dec d) := rfl
theorem rowOp_sub (c a n : Int) : rowOp 1005 [c, a, n] = enc (((dec c).drop a.toNat).take n.toNat) := rfl
theorem rowOp_size (c : Int) : rowOp 1006 [c] = ((dec c).length : Int) := rfl
theorem rowOp_get {m j : Nat} (hm : m < 32) (hj : j < 100) (c i : Int) : rowOp (1100 + 100 * m + j) [c, i] = rowGet m j c i := by
  unfold rowOp
  rw [if_neg (by omega), if_neg (by omega), if_neg (by omega), if_neg (by omega), if_neg (by omega), if_neg (by omega), if_neg (by omega), if_pos (by omega)]
  rw [show (1100 + 100 * m + j - 1100) / 100 = m by omega, show (1100 + 100 * m + j - 1100) % 100 = j by omega]
  rfl
end Go.SX
