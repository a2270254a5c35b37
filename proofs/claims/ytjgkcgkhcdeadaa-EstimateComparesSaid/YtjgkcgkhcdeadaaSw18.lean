/- Linear forms; tests decided by cases; what a test says of joined values. -/
import Derived.Test.YtjgkcgkhcdeadaaSw1
namespace Go.SX
open Go
set_option linter.unusedVariables false
set_option linter.unusedSimpArgs false

/-! ### linear forms -/

structure Lin where
  c : Int
  l : List (E × Int)

def denT (env : Env) : List (E × Int) → Int
  | [] => 0
  | (e, k) :: l => k * e.den env + denT env l
def Lin.den (env : Env) (L : Lin) : Int := L.c + denT env L.l

def addT (e : E) (k : Int) : List (E × Int) → List (E × Int)
  | [] => [(e, k)]
  | (e', k') :: l => bif e.same e' then (bif k + k' == 0 then l else (e', k + k') :: l) else (e', k') :: addT e k l

theorem addT_den {env : Env} {e : E} {k : Int} : ∀ {l : List (E × Int)}, denT env (addT e k l) = k * e.den env + denT env l
  | [] => rfl
  | (e', k') :: l => by
      simp only [addT]
      cases hs : e.same e' with
      | false => simp only [cond_false, denT]; rw [addT_den]; omega
      | true =>
        rw [E.same_eq hs]
        simp only [cond_true]
        cases hz : (k + k' == 0) with
        | true =>
          simp only [beq_iff_eq] at hz
          simp only [cond_true, denT]
          have : k * e'.den env + k' * e'.den env = 0 := by rw [← Int.add_mul, hz, Int.zero_mul]
          omega
        | false => simp only [cond_false, denT, Int.add_mul]; omega

def E.litI : E → Option Int
  | .lit n => some n
  | _ => none
theorem E.litI_eq {env : Env} {e : E} {n : Int} (h : e.litI = some n) : e.den env = n := by
  cases e <;> simp [E.litI] at h
  simp [E.den, h]

def lin : E → Int → Lin → Lin
  | .lit n, k, L => ⟨L.c + k * n, L.l⟩
  | .op .add a b, k, L => lin a k (lin b k L)
  | .op .sub a b, k, L => lin a k (lin b (-k) L)
  | .op .mul a b, k, L => match a.litI, b.litI with
    | some n, _ => lin b (k * n) L
    | none, some n => lin a (k * n) L
    | none, none => ⟨L.c, addT (.op .mul a b) k L.l⟩
  | e, k, L => ⟨L.c, addT e k L.l⟩

theorem lin_atom {env : Env} (e : E) (k : Int) (L : Lin) : Lin.den env ⟨L.c, addT e k L.l⟩ = k * e.den env + L.den env := by
  simp only [Lin.den, addT_den]; omega

theorem lin_den {env : Env} : ∀ (e : E) (k : Int) (L : Lin), (lin e k L).den env = k * e.den env + L.den env
  | .lit n, k, L => by simp [lin, Lin.den, E.den]; omega
  | .op .add a b, k, L => by simp only [lin]; rw [lin_den a, lin_den b]; simp only [E.den, O2.ev, Int.mul_add]; omega
  | .op .sub a b, k, L => by simp only [lin]; rw [lin_den a, lin_den b]; simp only [E.den, O2.ev, Int.mul_sub, Int.neg_mul]; omega
  | .op .mul a b, k, L => by
      simp only [lin]
      split
      · rename_i n hn
        rw [lin_den b]; simp only [E.den, O2.ev, E.litI_eq (env := env) hn]; rw [Int.mul_assoc]
      · rename_i n _ hn
        rw [lin_den a]; simp only [E.den, O2.ev, E.litI_eq (env := env) hn]; rw [Int.mul_assoc, Int.mul_comm n]
      · exact lin_atom _ k L
  | .op .tdiv a b, k, L => by simp only [lin]; exact lin_atom _ k L
  | .op .tmod a b, k, L => by simp only [lin]; exact lin_atom _ k L
  | .op .mx a b, k, L => by simp only [lin]; exact lin_atom _ k L
  | .op .mn a b, k, L => by simp only [lin]; exact lin_atom _ k L
  | .var i, k, L => by simp only [lin]; exact lin_atom _ k L
  | .bin o kd a b, k, L => by simp only [lin]; exact lin_atom _ k L
  | .conv kd a, k, L => by simp only [lin]; exact lin_atom _ k L
  | .app f l, k, L => by simp only [lin]; exact lin_atom _ k L
  | .ite c a b, k, L => by simp only [lin]; exact lin_atom _ k L
  | .cmp o a b, k, L => by simp only [lin]; exact lin_atom _ k L

def rangeT (cx : Ctx) : List (E × Int) → Option (Int × Int)
  | [] => some (0, 0)
  | (e, k) :: l => match bnd cx e, rangeT cx l with
    | some (a, b), some (x, y) => if 0 ≤ k then some (k * a + x, k * b + y) else some (k * b + x, k * a + y)
    | _, _ => none

theorem rangeT_ok {env : Env} {cx : Ctx} (hc : cx.ok env) : ∀ {l : List (E × Int)} {r : Int × Int}, rangeT cx l = some r → r.1 ≤ denT env l ∧ denT env l ≤ r.2
  | [], r, h => by simp only [rangeT, Option.some.injEq] at h; subst h; simp [denT]
  | (e, k) :: l, r, h => by
      simp only [rangeT] at h
      split at h
      · rename_i a b x y hb hr
        have h1 := bnd_ok hc _ _ hb
        have h2 := rangeT_ok hc hr
        simp only at h1 h2
        split at h
        · rename_i hk
          cases h
          simp only [denT]
          have := Int.mul_le_mul_of_nonneg_left h1.1 hk
          have := Int.mul_le_mul_of_nonneg_left h1.2 hk
          omega
        · rename_i hk
          cases h
          simp only [denT]
          have := Int.mul_le_mul_of_nonpos_left (a := k) (by omega) h1.1
          have := Int.mul_le_mul_of_nonpos_left (a := k) (by omega) h1.2
          omega
      · cases h

/-- a - b + s -/
def leOf (a b : E) (s : Int) : Lin := lin a 1 (lin b (-1) ⟨s, []⟩)
theorem leOf_den (env : Env) (a b : E) (s : Int) : (leOf a b s).den env = a.den env - b.den env + s := by
  unfold leOf; rw [lin_den, lin_den]; simp [Lin.den, denT]; omega

/-- what a known test says: forms that are at most 0 -/
def factL : BE × Bool → List Lin
  | (.cmp o a b, v) => match o, v with
    | .lss, true | .geq, false => [leOf a b 1]
    | .leq, true | .gtr, false => [leOf a b 0]
    | .gtr, true | .leq, false => [leOf b a 1]
    | .geq, true | .lss, false => [leOf b a 0]
    | .eql, true | .neq, false => [leOf a b 0, leOf b a 0]
    | _, _ => []
  | _ => []

theorem factL_ok {env : Env} {be : BE} {v : Bool} (h : be.den env = v) : ∀ L, L ∈ factL (be, v) → L.den env ≤ 0 := by
  intro L hm
  cases be <;> try (simp [factL] at hm; done)
  rename_i o a b
  simp only [BE.den] at h
  cases o <;> cases v <;> simp only [factL, List.mem_cons, List.not_mem_nil, or_false] at hm <;> simp [cmpI] at h
  all_goals first
    | (subst hm; rw [leOf_den]; omega)
    | (rcases hm with rfl | rfl <;> rw [leOf_den] <;> omega)

def factsL : List (BE × Bool) → List Lin
  | [] => []
  | p :: l => factL p ++ factsL l
theorem factsL_ok {env : Env} : ∀ {l : List (BE × Bool)}, (∀ be v, (be, v) ∈ l → be.den env = v) → ∀ L, L ∈ factsL l → L.den env ≤ 0
  | [], h, L, hm => by simp [factsL] at hm
  | (be, v) :: l, h, L, hm => by
      simp only [factsL, List.mem_append] at hm
      rcases hm with hm | hm
      · exact factL_ok (h be v (by simp)) L hm
      · exact factsL_ok (fun be v hm => h be v (by simp [hm])) L hm

def subT : List (E × Int) → List (E × Int) → List (E × Int)
  | l, [] => l
  | l, (e, k) :: r => subT (addT e (-k) l) r
theorem subT_den {env : Env} : ∀ {r l : List (E × Int)}, denT env (subT l r) = denT env l - denT env r
  | [], l => by simp [subT, denT]
  | (e, k) :: r, l => by simp only [subT, subT_den, addT_den, denT, Int.neg_mul]; omega
def subL (L F : Lin) : Lin := ⟨L.c - F.c, subT L.l F.l⟩
theorem subL_den {env : Env} (L F : Lin) : (subL L F).den env = L.den env - F.den env := by
  simp only [subL, Lin.den, subT_den]; omega

def leR (cx : Ctx) (L : Lin) : Bool := match rangeT cx L.l with
  | some r => decide (L.c + r.2 ≤ 0)
  | none => false

def leZ (cx : Ctx) (fs : List Lin) : Nat → Lin → Bool
  | 0, L => leR cx L
  | d + 1, L => leR cx L || fs.any fun F => Nat.blt (subT L.l F.l).length (L.l.length + F.l.length) && leZ cx fs d (subL L F)

theorem leR_ok {env : Env} {cx : Ctx} (hc : cx.ok env) {L : Lin} (h : leR cx L = true) : L.den env ≤ 0 := by
  unfold leR at h
  split at h
  · rename_i r hr
    have := rangeT_ok hc hr
    simp only [decide_eq_true_eq] at h
    simp only [Lin.den]; omega
  · cases h

theorem leZ_ok {env : Env} {cx : Ctx} (hc : cx.ok env) {fs : List Lin} (hf : ∀ F, F ∈ fs → F.den env ≤ 0) : ∀ {d : Nat} {L : Lin}, leZ cx fs d L = true → L.den env ≤ 0
  | 0, L, h => leR_ok hc h
  | d + 1, L, h => by
      simp only [leZ, Bool.or_eq_true] at h
      rcases h with h | h
      · exact leR_ok hc h
      · rw [List.any_eq_true] at h
        obtain ⟨F, hm, h⟩ := h
        simp only [Bool.and_eq_true] at h
        have h1 := leZ_ok hc hf h.2
        rw [subL_den] at h1
        have := hf F hm
        omega

def cmpL (cx : Ctx) (d : Nat) (o : BinOp) (a b : E) : Option Bool :=
  let fs := factsL cx.k
  let lt (a b : E) : Bool := leZ cx fs d (leOf a b 1)
  let le (a b : E) : Bool := leZ cx fs d (leOf a b 0)
  match o with
  | .lss => bif lt a b then some true else bif le b a then some false else none
  | .leq => bif le a b then some true else bif lt b a then some false else none
  | .gtr => bif lt b a then some true else bif le a b then some false else none
  | .geq => bif le b a then some true else bif lt a b then some false else none
  | .eql => bif lt a b || lt b a then some false else bif le a b && le b a then some true else none
  | .neq => bif lt a b || lt b a then some true else bif le a b && le b a then some false else none
  | _ => none

theorem cmpL_ok {env : Env} {cx : Ctx} (hc : cx.ok env) {d : Nat} {o : BinOp} {a b : E} {v : Bool} (h : cmpL cx d o a b = some v) : cmpI o (a.den env) (b.den env) = v := by
  have hf := factsL_ok hc.k
  have lt : ∀ a b : E, leZ cx (factsL cx.k) d (leOf a b 1) = true → a.den env < b.den env := by
    intro a b h
    have := leZ_ok hc hf h
    rw [leOf_den] at this; omega
  have le : ∀ a b : E, leZ cx (factsL cx.k) d (leOf a b 0) = true → a.den env ≤ b.den env := by
    intro a b h
    have := leZ_ok hc hf h
    rw [leOf_den] at this; omega
  have l1 := lt a b
  have l2 := lt b a
  have l3 := le a b
  have l4 := le b a
  simp only [cmpL] at h
  generalize leZ cx (factsL cx.k) d (leOf a b 1) = p1 at *
  generalize leZ cx (factsL cx.k) d (leOf b a 1) = p2 at *
  generalize leZ cx (factsL cx.k) d (leOf a b 0) = p3 at *
  generalize leZ cx (factsL cx.k) d (leOf b a 0) = p4 at *
  cases o <;> simp only at h <;> (try (cases h; done)) <;> cases p1 <;> cases p2 <;> cases p3 <;> cases p4 <;> simp at h l1 l2 l3 l4 <;> (try subst h) <;> simp [cmpI] <;> omega

/-! ### joined values -/

def mkIte (c a b : E) : E :=
  match c.litI with
  | some n => bif n == 0 then b else a
  | none => bif a.same b then a else .ite c a b
theorem mkIte_ok (env : Env) (c a b : E) : (mkIte c a b).den env = bif c.den env == 0 then b.den env else a.den env := by
  unfold mkIte
  split
  · rename_i n hn
    rw [E.litI_eq (env := env) hn]
    cases n == 0 <;> rfl
  · cases hs : a.same b with
    | true => rw [E.same_eq hs]; simp
    | false => rfl

def BE.toE : BE → E
  | .lit b => .lit (bif b then 1 else 0)
  | .cmp o a b => .cmp o a b
  | .neg b => mkIte b.toE (.lit 0) (.lit 1)
  | .and a b => mkIte a.toE b.toE (.lit 0)
  | .eqb a b => mkIte a.toE b.toE (mkIte b.toE (.lit 0) (.lit 1))
  | .tst e => .ite e (.lit 1) (.lit 0)
theorem toE_ok (env : Env) : ∀ b : BE, b.toE.den env = bif b.den env then 1 else 0
  | .lit b => by cases b <;> rfl
  | .cmp o a b => rfl
  | .neg b => by simp only [BE.toE, mkIte_ok, toE_ok env b, BE.den]; cases b.den env <;> rfl
  | .and a b => by simp only [BE.toE, mkIte_ok, toE_ok env a, toE_ok env b, BE.den]; cases a.den env <;> cases b.den env <;> rfl
  | .eqb a b => by simp only [BE.toE, mkIte_ok, toE_ok env a, toE_ok env b, BE.den]; cases a.den env <;> cases b.den env <;> rfl
  | .tst e => by
      simp only [BE.toE, E.den, BE.den, bne]
      cases e.den env == 0 <;> rfl

def isLit (e : E) (n : Int) : Bool := match e.litI with
  | some m => m == n
  | none => false
theorem isLit_ok {env : Env} {e : E} {n : Int} (h : isLit e n = true) : e.den env = n := by
  unfold isLit at h
  split at h
  · rename_i m hm; rw [E.litI_eq hm]; simpa using h
  · cases h

/-- an expression as a test: is it not 0 -/
def E.toB : E → BE
  | .lit n => .lit (n != 0)
  | .cmp o a b => .cmp o a b
  | .ite c a b =>
    bif isLit a 0 && isLit b 1 then mkNeg c.toB
    else bif isLit a 1 && isLit b 0 then c.toB
    else bif isLit b 0 then mkAnd c.toB a.toB
    else .tst (.ite c a b)
  | e => .tst e
theorem toB_ok (env : Env) : ∀ e : E, e.toB.den env = (e.den env != 0)
  | .lit n => rfl
  | .cmp o a b => by simp only [E.toB, BE.den, E.den]; cases cmpI o (a.den env) (b.den env) <;> rfl
  | .ite c a b => by
      simp only [E.toB]
      have hcB := toB_ok env c
      have haB := toB_ok env a
      cases h1 : (isLit a 0 && isLit b 1) with
      | true =>
        simp only [Bool.and_eq_true] at h1
        simp only [cond_true, mkNeg_ok, hcB, E.den, isLit_ok (env := env) h1.1, isLit_ok (env := env) h1.2, bne]
        cases c.den env == 0 <;> rfl
      | false =>
        simp only [cond_false]
        cases h2 : (isLit a 1 && isLit b 0) with
        | true =>
          simp only [Bool.and_eq_true] at h2
          simp only [cond_true, hcB, E.den, isLit_ok (env := env) h2.1, isLit_ok (env := env) h2.2, bne]
          cases c.den env == 0 <;> rfl
        | false =>
          simp only [cond_false]
          cases h3 : isLit b 0 with
          | true =>
            simp only [cond_true, mkAnd_ok, hcB, haB, E.den, isLit_ok (env := env) h3, bne]
            cases h4 : (c.den env == 0) <;> cases h5 : (a.den env == 0) <;> simp [h5]
          | false => rfl
  | .var i => rfl
  | .op o a b => rfl
  | .bin o k a b => rfl
  | .conv k a => rfl
  | .app f l => rfl

/-- what is known of a test, by ranges and by one known test -/
def resolveL (cx : Ctx) : BE → Option Bool
  | .cmp o a b => match resolve cx (.cmp o a b) with
    | some v => some v
    | none => cmpL cx 1 o a b
  | .neg b => (resolveL cx b).map (!·)
  | .and a b => match resolveL cx a, resolveL cx b with
    | some false, _ => some false
    | _, some false => some false
    | some true, some true => some true
    | _, _ => none
  | .eqb a b => match resolve cx (.eqb a b) with
    | some v => some v
    | none => match resolveL cx a, resolveL cx b with
      | some x, some y => some (x == y)
      | _, _ => none
  | b => resolve cx b

theorem resolveL_ok {env : Env} {cx : Ctx} (hc : cx.ok env) : ∀ {be : BE} {v : Bool}, resolveL cx be = some v → be.den env = v
  | .cmp o a b, v, h => by
      simp only [resolveL] at h
      split at h
      · rename_i w hw; cases h; exact resolve_ok hc hw
      · exact cmpL_ok hc h
  | .neg b, v, h => by
      simp only [resolveL, Option.map_eq_some_iff] at h
      obtain ⟨w, hw, rfl⟩ := h
      simp [BE.den, resolveL_ok hc hw]
  | .and a b, v, h => by
      simp only [resolveL] at h
      split at h
      · rename_i h1; cases h; simp [BE.den, resolveL_ok hc h1]
      · cases h
        simp only [BE.den, Bool.and_eq_false_iff]
        exact Or.inr (resolveL_ok hc (by assumption))
      · rename_i h1 h2; cases h; simp [BE.den, resolveL_ok hc h1, resolveL_ok hc h2]
      · simp at h
  | .eqb a b, v, h => by
      simp only [resolveL] at h
      split at h
      · rename_i w hw; cases h; exact resolve_ok hc hw
      · split at h
        · rename_i x y hx hy
          cases h
          simp [BE.den, resolveL_ok hc hx, resolveL_ok hc hy]
        · cases h
  | .lit b, v, h => resolve_ok hc h
  | .tst e, v, h => resolve_ok hc h

def mkML (cx : Ctx) (o : O2) (a b : E) : E :=
  match o with
  | .mx => match resolveL cx (mkCmp cx .leq a b) with
    | some true => b
    | some false => a
    | none => .op .mx a b
  | .mn => match resolveL cx (mkCmp cx .leq a b) with
    | some true => a
    | some false => b
    | none => .op .mn a b
  | o => mkO2 o a b
theorem mkML_ok {env : Env} {cx : Ctx} (hc : cx.ok env) (o : O2) (a b : E) : (mkML cx o a b).den env = o.ev (a.den env) (b.den env) := by
  have key : ∀ v, resolveL cx (mkCmp cx .leq a b) = some v → decide (a.den env ≤ b.den env) = v := by
    intro v h
    have := resolveL_ok hc h
    rw [mkCmp_ok hc] at this
    exact this
  cases o <;> simp only [mkML] <;> try exact mkO2_ok env _ a b
  · split
    · rename_i h; have := key _ h; simp at this; simp only [O2.ev]; split <;> omega
    · rename_i h; have := key _ h; simp at this; simp only [O2.ev]; split <;> omega
    · rfl
  · split
    · rename_i h; have := key _ h; simp at this; simp only [O2.ev]; split <;> omega
    · rename_i h; have := key _ h; simp at this; simp only [O2.ev]; split <;> omega
    · rfl

mutual
def simpE (cx : Ctx) : E → E
  | .lit n => .lit n
  | .var i => .var i
  | .op o a b => mkML cx o (simpE cx a) (simpE cx b)
  | .bin o k a b => mkBin cx o k (simpE cx a) (simpE cx b)
  | .conv k a => mkConv cx k (simpE cx a)
  | .app f l => .app f (simpEL cx l)
  | .ite c a b => match resolveL cx (simpE cx c).toB with
    | some true => simpE cx a
    | some false => simpE cx b
    | none => mkIte (simpE cx c) (simpE cx a) (simpE cx b)
  | .cmp o a b => match resolveL cx (mkCmp cx o (simpE cx a) (simpE cx b)) with
    | some true => .lit 1
    | some false => .lit 0
    | none => .cmp o (simpE cx a) (simpE cx b)
def simpEL (cx : Ctx) : List E → List E
  | [] => []
  | e :: l => simpE cx e :: simpEL cx l
end

mutual
theorem simpE_ok {env : Env} {cx : Ctx} (hc : cx.ok env) : ∀ e : E, (simpE cx e).den env = e.den env
  | .lit n => rfl
  | .var i => rfl
  | .op o a b => by simp only [simpE, mkML_ok hc, simpE_ok hc a, simpE_ok hc b, E.den]
  | .bin o k a b => by simp only [simpE, mkBin_ok hc, simpE_ok hc a, simpE_ok hc b, E.den]
  | .conv k a => by simp only [simpE, mkConv_ok hc, simpE_ok hc a, E.den]
  | .app f l => by simp only [simpE, E.den, simpEL_ok hc l]
  | .ite c a b => by
      simp only [simpE]
      split
      · rename_i h
        have := resolveL_ok hc h
        rw [toB_ok, simpE_ok hc c] at this
        simp only [E.den, simpE_ok hc a]
        cases h0 : (c.den env == 0) with
        | true => simp [bne, h0] at this
        | false => rfl
      · rename_i h
        have := resolveL_ok hc h
        rw [toB_ok, simpE_ok hc c] at this
        simp only [E.den, simpE_ok hc b]
        cases h0 : (c.den env == 0) with
        | true => rfl
        | false => simp [bne, h0] at this
      · rw [mkIte_ok, simpE_ok hc a, simpE_ok hc b, simpE_ok hc c]; rfl
  | .cmp o a b => by
      simp only [simpE]
      split
      · rename_i h
        have := resolveL_ok hc h
        rw [mkCmp_ok hc, simpE_ok hc a, simpE_ok hc b] at this
        simp only [E.den, this]; rfl
      · rename_i h
        have := resolveL_ok hc h
        rw [mkCmp_ok hc, simpE_ok hc a, simpE_ok hc b] at this
        simp only [E.den, this]; rfl
      · simp only [E.den, simpE_ok hc a, simpE_ok hc b]
theorem simpEL_ok {env : Env} {cx : Ctx} (hc : cx.ok env) : ∀ l : List E, denL env (simpEL cx l) = denL env l
  | [] => rfl
  | e :: l => by simp only [simpEL, denL, simpE_ok hc e, simpEL_ok hc l]
end

def simpB (cx : Ctx) : BE → BE
  | .lit b => .lit b
  | .cmp o a b => mkCmp cx o (simpE cx a) (simpE cx b)
  | .neg b => mkNeg (simpB cx b)
  | .and a b => mkAnd (simpB cx a) (simpB cx b)
  | .eqb a b => mkEqb (simpB cx a) (simpB cx b)
  | .tst e => (simpE cx e).toB
theorem simpB_ok {env : Env} {cx : Ctx} (hc : cx.ok env) : ∀ b : BE, (simpB cx b).den env = b.den env
  | .lit b => rfl
  | .cmp o a b => by simp only [simpB, mkCmp_ok hc, simpE_ok hc, BE.den]
  | .neg b => by simp only [simpB, mkNeg_ok, simpB_ok hc b, BE.den]
  | .and a b => by simp only [simpB, mkAnd_ok, simpB_ok hc a, simpB_ok hc b, BE.den]
  | .eqb a b => by simp only [simpB, mkEqb_ok, simpB_ok hc a, simpB_ok hc b, BE.den]
  | .tst e => by simp only [simpB, toB_ok, simpE_ok hc, BE.den]

/-- a test on which an expression depends: the innermost first -/
def orE (a b : Option BE) : Option BE := match a with
  | some x => some x
  | none => b
def BE.atom : BE → BE
  | .neg b => b.atom
  | .and a _ => a.atom
  | .eqb a _ => a.atom
  | b => b
mutual
def splitE : E → Option BE
  | .ite c a b => orE (splitE c) (some c.toB.atom)
  | .op o a b => orE (splitE a) (orE (splitE b) (match o with
    | .mx | .mn => some (.cmp .leq a b)
    | _ => none))
  | .bin _ _ a b => orE (splitE a) (splitE b)
  | .cmp _ a b => orE (splitE a) (splitE b)
  | .conv _ a => splitE a
  | .app _ l => splitEL l
  | _ => none
def splitEL : List E → Option BE
  | [] => none
  | e :: l => orE (splitE e) (splitEL l)
end
def splitB : BE → Option BE
  | .cmp _ a b => orE (splitE a) (splitE b)
  | .neg b => splitB b
  | .and a b => orE (orE (splitB a) (splitB b)) (some a.atom)
  | .eqb a b => orE (orE (splitB a) (splitB b)) (some a.atom)
  | .tst e => splitE e
  | .lit _ => none

/-- no number can be so -/
def deadC (cx : Ctx) : Bool := match cx.b with
  | (_, a, b) :: (_, c, d) :: _ => decide (b < a) || decide (d < c)
  | [(_, a, b)] => decide (b < a)
  | [] => false
theorem deadC_ok {env : Env} {cx : Ctx} (hc : cx.ok env) (h : deadC cx = true) : False := by
  obtain ⟨b, k⟩ := cx
  simp only [deadC] at h
  have hb := hc.b
  match b, h with
  | (e, a, b) :: (e', c, d) :: l, h =>
    have h1 := hb e a b (by simp)
    have h2 := hb e' c d (by simp)
    simp at h
    omega
  | [(e, a, b)], h =>
    have h1 := hb e a b (by simp)
    simp at h
    omega

/-- what a test says of the tests inside of its joined values -/
def assumeJ : Nat → Ctx → BE → Bool → Ctx
  | 0, cx, be, v => assume cx be v
  | n + 1, cx, .neg b, v => assumeJ n cx b (!v)
  | n + 1, cx, .and a b, true => assumeJ n (assumeJ n cx a true) b true
  | n + 1, cx, .tst e, v => match e with
    | .ite c a b =>
      let cx' := assume cx (.tst e) v
      match resolveL cx b.toB with
      | some w => bif w == !v then assumeJ n (assumeJ n cx' c.toB true) a.toB v else cx'
      | none => match resolveL cx a.toB with
        | some w => bif w == !v then assumeJ n (assumeJ n cx' c.toB false) b.toB v else cx'
        | none => cx'
    | e => assume cx (.tst e) v
  | n + 1, cx, .cmp o x y, v =>
    let cx' := assume cx (.cmp o x y) v
    match x, y with
    | .ite c a b, y => (match resolveL cx (mkCmp cx o b y) with
      | some w => bif w == !v then assumeJ n (assumeJ n cx' c.toB true) (mkCmp cx o a y) v else cx'
      | none => match resolveL cx (mkCmp cx o a y) with
        | some w => bif w == !v then assumeJ n (assumeJ n cx' c.toB false) (mkCmp cx o b y) v else cx'
        | none => cx')
    | x, .ite c a b => (match resolveL cx (mkCmp cx o x b) with
      | some w => bif w == !v then assumeJ n (assumeJ n cx' c.toB true) (mkCmp cx o x a) v else cx'
      | none => match resolveL cx (mkCmp cx o x a) with
        | some w => bif w == !v then assumeJ n (assumeJ n cx' c.toB false) (mkCmp cx o x b) v else cx'
        | none => cx')
    | _, _ => cx'
  | n + 1, cx, be, v => assume cx be v

theorem assumeJ_ok {env : Env} : ∀ (n : Nat) {cx : Ctx} {be : BE} {v : Bool}, cx.ok env → be.den env = v → (assumeJ n cx be v).ok env := by
  intro n
  induction n with
  | zero => intro cx be v hc h; exact assume_ok hc h
  | succ n ih =>
    intro cx be v hc h
    -- the way through one joined value
    have way : ∀ (c a b : E) (f : E → BE) (cx' : Ctx), cx'.ok env → (∀ e, (f e).den env = (f (.lit (e.den env))).den env) → (f (.ite c a b)).den env = v →
        (∀ w, resolveL cx (f b) = some w → w = (!v) → (assumeJ n (assumeJ n cx' c.toB true) (f a) v).ok env) ∧
        (∀ w, resolveL cx (f a) = some w → w = (!v) → (assumeJ n (assumeJ n cx' c.toB false) (f b) v).ok env) := by
      intro c a b f cx' hc' hf hv
      rw [hf] at hv
      simp only [E.den] at hv
      constructor
      · intro w hw hwv
        have h1 := resolveL_ok hc hw
        rw [hf] at h1
        cases h0 : (c.den env == 0) with
        | true =>
          rw [h0, cond_true, h1, hwv] at hv
          cases v <;> cases hv
        | false =>
          rw [h0, cond_false, ← hf] at hv
          exact ih (ih hc' (by rw [toB_ok, bne, h0]; rfl)) hv
      · intro w hw hwv
        have h1 := resolveL_ok hc hw
        rw [hf] at h1
        cases h0 : (c.den env == 0) with
        | false =>
          rw [h0, cond_false, h1, hwv] at hv
          cases v <;> cases hv
        | true =>
          rw [h0, cond_true, ← hf] at hv
          exact ih (ih hc' (by rw [toB_ok, bne, h0]; rfl)) hv
    cases be with
    | lit b => exact assume_ok hc h
    | eqb a b => exact assume_ok hc h
    | neg b =>
      simp only [assumeJ]
      exact ih hc (by simp only [BE.den] at h; rw [← h]; simp)
    | and a b =>
      cases v with
      | false => exact assume_ok hc h
      | true =>
        simp only [assumeJ]
        simp only [BE.den, Bool.and_eq_true] at h
        exact ih (ih hc h.1) h.2
    | tst e =>
      cases e with
      | ite c a b =>
        simp only [assumeJ]
        have w := way c a b (fun e => e.toB) (assume cx (.tst (.ite c a b)) v) (assume_ok hc h) (fun e => by simp only [toB_ok, E.den]) (by rw [toB_ok]; exact h)
        split
        · rename_i x hx
          cases hb : (x == !v) with
          | false => exact assume_ok hc h
          | true => exact w.1 x hx (by simpa using hb)
        · split
          · rename_i x hx
            cases hb : (x == !v) with
            | false => exact assume_ok hc h
            | true => exact w.2 x hx (by simpa using hb)
          · exact assume_ok hc h
      | lit | var | op | bin | conv | app | cmp => exact assume_ok hc h
    | cmp o x y =>
      simp only [assumeJ]
      have hA := assume_ok (env := env) hc h
      split
      · rename_i c a b
        have w := way c a b (fun e => mkCmp cx o e y) (assume cx (.cmp o (.ite c a b) y) v) hA (fun e => by simp only [mkCmp_ok hc, E.den]) (by rw [mkCmp_ok hc]; exact h)
        split
        · rename_i z hz
          cases hb : (z == !v) with
          | false => exact hA
          | true => exact w.1 z hz (by simpa using hb)
        · split
          · rename_i z hz
            cases hb : (z == !v) with
            | false => exact hA
            | true => exact w.2 z hz (by simpa using hb)
          · exact hA
      · rename_i c a b _
        have w := way c a b (fun e => mkCmp cx o x e) (assume cx (.cmp o x (.ite c a b)) v) hA (fun e => by simp only [mkCmp_ok hc, E.den]) (by rw [mkCmp_ok hc]; exact h)
        split
        · rename_i z hz
          cases hb : (z == !v) with
          | false => exact hA
          | true => exact w.1 z hz (by simpa using hb)
        · split
          · rename_i z hz
            cases hb : (z == !v) with
            | false => exact hA
            | true => exact w.2 z hz (by simpa using hb)
          · exact hA
      · exact hA

/-- a test decided by up to three known ones -/
def resolveD (cx : Ctx) : BE → Option Bool
  | .cmp o a b => cmpL cx 3 o a b
  | .neg b => (resolveD cx b).map (!·)
  | b => resolveL cx b
theorem resolveD_ok {env : Env} {cx : Ctx} (hc : cx.ok env) : ∀ {be : BE} {v : Bool}, resolveD cx be = some v → be.den env = v
  | .cmp o a b, v, h => cmpL_ok hc h
  | .neg b, v, h => by
      simp only [resolveD, Option.map_eq_some_iff] at h
      obtain ⟨w, h1, rfl⟩ := h
      simp only [BE.den, resolveD_ok hc h1]
  | .lit b, v, h => resolveL_ok hc h
  | .and a b, v, h => resolveL_ok hc h
  | .eqb a b, v, h => resolveL_ok hc h
  | .tst e, v, h => resolveL_ok hc h

/-- a test decided by cases: the same answer on all ways that can be -/
def byCases : Nat → Ctx → BE → Option Bool
  | 0, cx, b => resolveL cx (simpB cx b)
  | n + 1, cx, b =>
    let b' := simpB cx b
    match resolveL cx b' with
    | some v => some v
    | none => match splitB b' with
      | none => resolveD cx b'
      | some s => match resolveD cx s with
        | some v => byCases n (assumeJ 50 cx s v) b'
        | none =>
        let c1 := assumeJ 50 cx s true
        let c2 := assumeJ 50 cx s false
        bif deadC c1 then byCases n c2 b'
        else bif deadC c2 then byCases n c1 b'
        else match byCases n c1 b' with
          | none => none
          | some v => match byCases n c2 b' with
            | some w => bif v == w then some v else none
            | none => none

theorem byCases_ok {env : Env} : ∀ (n : Nat) {cx : Ctx} {b : BE} {v : Bool}, cx.ok env → byCases n cx b = some v → b.den env = v
  | 0, cx, b, v, hc, h => by rw [← simpB_ok hc]; exact resolveL_ok hc h
  | n + 1, cx, b, v, hc, h => by
      simp only [byCases] at h
      rw [← simpB_ok hc]
      split at h
      · rename_i w hw; cases h; exact resolveL_ok hc hw
      · split at h
        · exact resolveD_ok hc h
        · rename_i s hs
          split at h
          · rename_i w hw
            exact byCases_ok n (assumeJ_ok 50 hc (resolveD_ok hc hw)) h
          have hT : s.den env = true → (assumeJ 50 cx s true).ok env := fun e => assumeJ_ok 50 hc e
          have hF : s.den env = false → (assumeJ 50 cx s false).ok env := fun e => assumeJ_ok 50 hc e
          cases hd1 : deadC (assumeJ 50 cx s true) with
          | true =>
            rw [hd1, cond_true] at h
            cases hv : s.den env with
            | true => exact (deadC_ok (hT hv) hd1).elim
            | false => exact byCases_ok n (hF hv) h
          | false =>
            rw [hd1, cond_false] at h
            cases hd2 : deadC (assumeJ 50 cx s false) with
            | true =>
              rw [hd2, cond_true] at h
              cases hv : s.den env with
              | false => exact (deadC_ok (hF hv) hd2).elim
              | true => exact byCases_ok n (hT hv) h
            | false =>
              rw [hd2, cond_false] at h
              split at h
              · cases h
              · rename_i x hx
                split at h
                · rename_i y hy
                  cases hxy : (x == y) with
                  | false => rw [hxy, cond_false] at h; cases h
                  | true =>
                    rw [hxy, cond_true] at h
                    cases h
                    cases hv : s.den env with
                    | true => exact byCases_ok n (hT hv) hx
                    | false =>
                      have := byCases_ok n (hF hv) hy
                      rw [this]
                      exact (eq_of_beq hxy).symm
                · cases h

/-- a test decided, or as it stands -/
def resolveJ (cx : Ctx) (b : BE) : Option Bool := match resolve cx b with
  | some v => some v
  | none => byCases cx.d cx b
theorem resolveJ_ok {env : Env} {cx : Ctx} (hc : cx.ok env) {b : BE} {v : Bool} (h : resolveJ cx b = some v) : b.den env = v := by
  unfold resolveJ at h
  split at h
  · rename_i w hw; cases h; exact resolve_ok hc hw
  · exact byCases_ok _ hc h

/-- a test that is decided, or as it stands -/
def seenC (cx : Ctx) (b : BE) : BE := match resolveJ cx b with
  | some v => .lit v
  | none => b
theorem seenC_ok {env : Env} {cx : Ctx} (hc : cx.ok env) (b : BE) : (seenC cx b).den env = b.den env := by
  unfold seenC
  split
  · rename_i v hv; rw [resolveJ_ok hc hv]; rfl
  · rfl
end Go.SX
