/- Values with expressions in them, a store of named blocks, and trees that read and write it. -/
import Derived.Test.YtlicmlbckpplgaaGreatSx1
namespace Go.SX
open Go Go.RowKit
set_option linter.unusedVariables false
set_option linter.unusedSimpArgs false

/-! ### tables by number -/

inductive T (α : Type) where
  | nil
  | node (l : T α) (v : Option α) (r : T α)

def T.get {α : Type} : T α → Nat → Option α
  | .nil, _ => none
  | .node l v r, n => bif Nat.beq n 0 then v else bif Nat.beq (n % 2) 1 then l.get (n / 2) else r.get (n / 2 - 1)

def T.setF {α : Type} : Nat → T α → Nat → α → T α
  | 0, t, _, _ => t
  | f + 1, .nil, n, x =>
    bif Nat.beq n 0 then .node .nil (some x) .nil
    else bif Nat.beq (n % 2) 1 then .node (T.setF f .nil (n / 2) x) none .nil else .node .nil none (T.setF f .nil (n / 2 - 1) x)
  | f + 1, .node l v r, n, x =>
    bif Nat.beq n 0 then .node l (some x) r
    else bif Nat.beq (n % 2) 1 then .node (T.setF f l (n / 2) x) v r else .node l v (T.setF f r (n / 2 - 1) x)

def T.set {α : Type} (t : T α) (n : Nat) (x : α) : T α := T.setF (n + 1) t n x

theorem beq_zero (n : Nat) : Nat.beq n 0 = decide (n = 0) := by
  cases n with
  | zero => simp
  | succ n => simp [Nat.beq]
theorem beq_dec (n m : Nat) : Nat.beq n m = decide (n = m) := by
  by_cases h : n = m
  · subst h; simp
  · rw [decide_eq_false h]
    cases hb : Nat.beq n m with
    | false => rfl
    | true => exact absurd (Nat.eq_of_beq_eq_true hb) h

theorem T.get_setF {α : Type} : ∀ (f : Nat) (t : T α) (n m : Nat) (x : α), n < f → (T.setF f t n x).get m = if m = n then some x else t.get m
  | 0, _, _, _, _, h => by omega
  | f + 1, t, n, m, x, h => by
      have step : ∀ (l : T α) (v : Option α) (r : T α), (T.setF (f + 1) (.node l v r) n x).get m = if m = n then some x else (T.node l v r).get m := by
        intro l v r
        simp only [T.setF, beq_dec]
        by_cases h0 : n = 0
        · subst h0
          simp only [decide_true, cond_true, T.get, beq_dec]
          by_cases hm : m = 0
          · simp [hm]
          · simp [hm]
        · by_cases h1 : n % 2 = 1
          · simp only [h0, h1, decide_true, decide_false, cond_true, cond_false, T.get, beq_dec]
            by_cases hm : m = 0
            · have : ¬ m = n := by omega
              simp [hm, Ne.symm h0]
            · by_cases hm1 : m % 2 = 1
              · simp only [hm, hm1, decide_true, decide_false, cond_true, cond_false]
                rw [T.get_setF f l (n / 2) (m / 2) x (by omega)]
                by_cases he : m = n
                · simp [he]
                · rw [if_neg (by omega), if_neg he]
              · simp only [hm, hm1, decide_true, decide_false, cond_true, cond_false]
                rw [if_neg (by omega)]
          · simp only [h0, h1, decide_true, decide_false, cond_true, cond_false, T.get, beq_dec]
            by_cases hm : m = 0
            · simp [hm, Ne.symm h0]
            · by_cases hm1 : m % 2 = 1
              · simp only [hm, hm1, decide_true, decide_false, cond_true, cond_false]
                rw [if_neg (by omega)]
              · simp only [hm, hm1, decide_true, decide_false, cond_true, cond_false]
                rw [T.get_setF f r (n / 2 - 1) (m / 2 - 1) x (by omega)]
                by_cases he : m = n
                · simp [he]
                · rw [if_neg (by omega), if_neg he]
      cases t with
      | node l v r => exact step l v r
      | nil =>
        have e : T.setF (f + 1) (.nil : T α) n x = T.setF (f + 1) (.node .nil none .nil) n x := rfl
        rw [e, step]
        congr 1
        simp only [T.get]
        cases Nat.beq m 0 <;> cases Nat.beq (m % 2) 1 <;> rfl

theorem T.get_set {α : Type} (t : T α) (n m : Nat) (x : α) : (t.set n x).get m = if m = n then some x else t.get m :=
  T.get_setF (n + 1) t n m x (by omega)
theorem T.get_nil {α : Type} (n : Nat) : (T.nil : T α).get n = none := rfl

/-! ### values -/

inductive SA where
  | c (b off : Nat)
  | s (b : Nat) (ix : E) (m off : Nat)
  | g (b off : Nat)

inductive SFn where
  | func (f : Nat)
  | yield (l : Nat)

inductive SV where
  | int (k : IntKind) (e : E)
  | bool (b : BE)
  | ptr (a : Option SA)
  | slice (a : Option SA) (len : E) (cap : Option E)
  | func (f : SFn) (first captured : List SV)
  | nilFunc
  | nilIface
  | iface (t : TypeId) (v : SV)
  | str (s : ByteArray)
  | nilMap
  | agg (l : List SV)
  | tuple (l : List SV)

abbrev Pl := Nat → Option (Nat × Nat)

def Pl.le (ρ ρ' : Pl) : Prop := ∀ b r, ρ b = some r → ρ' b = some r
theorem Pl.le_refl (ρ : Pl) : ρ.le ρ := fun _ _ h => h
theorem Pl.le_trans {a b c : Pl} (h : a.le b) (h' : b.le c) : a.le c := fun n r e => h' n r (h n r e)

def RepA (env : Env) (ρ : Pl) : SA → Addr → Prop
  | .c b off, A => ∃ r o, ρ b = some (r, o) ∧ A = ⟨r, o + off, none⟩
  | .s b ix m off, A => ∃ r o, ρ b = some (r, o) ∧ 0 ≤ ix.den env ∧ A = ⟨r, o + (m * (ix.den env).toNat + off), none⟩
  | .g b off, A => ∃ r o, ρ b = some (r, o) ∧ A = ⟨r, off, none⟩

def RepO (env : Env) (ρ : Pl) : Option SA → Option Addr → Prop
  | none, A => A = none
  | some a, A => ∃ A', RepA env ρ a A' ∧ A = some A'

def RepF (ρ : Pl) : SFn → Fn → Prop
  | .func f, g => g = .func f
  | .yield l, g => ∃ r o, ρ l = some (r, o) ∧ g = .yield r

/-- a row that grows: its block's capacity stands in the place of its offset -/
def capOf : Option SA → Option Nat
  | some (.g b 0) => some b
  | _ => none

def RepC (env : Env) (ρ : Pl) (a : Option SA) (n c : Nat) : Option E → Prop
  | some e => c = (e.den env).toNat
  | none => n ≤ c ∧ ∀ b, capOf a = some b → ∃ r, ρ b = some (r, c)

mutual
def Rep (env : Env) (ρ : Pl) : SV → Value → Prop
  | .int k e, v => v = .int k (e.den env)
  | .bool b, v => v = .bool (b.den env)
  | .ptr a, v => ∃ A, RepO env ρ a A ∧ v = .pointer A
  | .slice a len cap, v => ∃ A c, RepO env ρ a A ∧ RepC env ρ a (len.den env).toNat c cap ∧ 0 ≤ len.den env ∧ v = .slice A (len.den env).toNat c
  | .func f first cap, v => ∃ g fs cs, RepF ρ f g ∧ RepL env ρ first fs ∧ RepL env ρ cap cs ∧ v = .func g fs.toArray cs.toArray
  | .nilFunc, v => v = .nilFunc
  | .nilIface, v => v = .nilIface
  | .iface t x, v => ∃ u, Rep env ρ x u ∧ v = .iface t u
  | .str s, v => v = .string s
  | .nilMap, v => v = .map none
  | .agg l, v => ∃ vs, RepL env ρ l vs ∧ v = .agg vs.toArray
  | .tuple l, v => ∃ vs, RepL env ρ l vs ∧ v = .tuple vs.toArray
def RepL (env : Env) (ρ : Pl) : List SV → List Value → Prop
  | [], vs => vs = []
  | s :: l, vs => ∃ v vs', Rep env ρ s v ∧ RepL env ρ l vs' ∧ vs = v :: vs'
end

theorem RepA.mono {env : Env} {ρ ρ' : Pl} (h : ρ.le ρ') {a : SA} {A : Addr} (ha : RepA env ρ a A) : RepA env ρ' a A := by
  cases a with
  | c b off => obtain ⟨r, o, e, rfl⟩ := ha; exact ⟨r, o, h _ _ e, rfl⟩
  | s b ix m off => obtain ⟨r, o, e, hn, rfl⟩ := ha; exact ⟨r, o, h _ _ e, hn, rfl⟩
  | g b off => obtain ⟨r, o, e, rfl⟩ := ha; exact ⟨r, o, h _ _ e, rfl⟩
theorem RepO.mono {env : Env} {ρ ρ' : Pl} (h : ρ.le ρ') {a : Option SA} {A : Option Addr} (ha : RepO env ρ a A) : RepO env ρ' a A := by
  cases a with
  | none => exact ha
  | some a => obtain ⟨A', e, rfl⟩ := ha; exact ⟨A', e.mono h, rfl⟩
theorem RepC.mono {env : Env} {ρ ρ' : Pl} (h : ρ.le ρ') {a : Option SA} {n c : Nat} {e : Option E} (ha : RepC env ρ a n c e) : RepC env ρ' a n c e := by
  cases e with
  | some e => exact ha
  | none => exact ⟨ha.1, fun b hb => let ⟨r, e⟩ := ha.2 b hb; ⟨r, h _ _ e⟩⟩
theorem RepF.mono {ρ ρ' : Pl} (h : ρ.le ρ') {a : SFn} {A : Fn} (ha : RepF ρ a A) : RepF ρ' a A := by
  cases a with
  | func f => exact ha
  | yield l => obtain ⟨r, o, e, rfl⟩ := ha; exact ⟨r, o, h _ _ e, rfl⟩

mutual
theorem Rep.mono {env : Env} {ρ ρ' : Pl} (h : ρ.le ρ') : ∀ {s : SV} {v : Value}, Rep env ρ s v → Rep env ρ' s v
  | .int k e, v, hr => hr
  | .bool b, v, hr => hr
  | .ptr a, v, hr => by obtain ⟨A, e, rfl⟩ := hr; exact ⟨A, e.mono h, rfl⟩
  | .slice a len cap, v, hr => by obtain ⟨A, c, e, e2, e3, rfl⟩ := hr; exact ⟨A, c, e.mono h, e2.mono h, e3, rfl⟩
  | .func f first cap, v, hr => by
      obtain ⟨g, fs, cs, e, e1, e2, rfl⟩ := hr
      exact ⟨g, fs, cs, e.mono h, RepL.mono h e1, RepL.mono h e2, rfl⟩
  | .nilFunc, v, hr => hr
  | .nilIface, v, hr => hr
  | .iface t x, v, hr => by obtain ⟨u, e, rfl⟩ := hr; exact ⟨u, Rep.mono h e, rfl⟩
  | .str s, v, hr => hr
  | .nilMap, v, hr => hr
  | .agg l, v, hr => by obtain ⟨vs, e, rfl⟩ := hr; exact ⟨vs, RepL.mono h e, rfl⟩
  | .tuple l, v, hr => by obtain ⟨vs, e, rfl⟩ := hr; exact ⟨vs, RepL.mono h e, rfl⟩
theorem RepL.mono {env : Env} {ρ ρ' : Pl} (h : ρ.le ρ') : ∀ {l : List SV} {vs : List Value}, RepL env ρ l vs → RepL env ρ' l vs
  | [], vs, hr => hr
  | s :: l, vs, hr => by obtain ⟨v, vs', e1, e2, rfl⟩ := hr; exact ⟨v, vs', Rep.mono h e1, RepL.mono h e2, rfl⟩
end

theorem RepL.length {env : Env} {ρ : Pl} : ∀ {l : List SV} {vs : List Value}, RepL env ρ l vs → vs.length = l.length
  | [], vs, h => by rw [show vs = [] from h]; rfl
  | s :: l, vs, h => by obtain ⟨v, vs', _, e2, rfl⟩ := h; simp [e2.length]

theorem RepL.get {env : Env} {ρ : Pl} : ∀ {l : List SV} {vs : List Value} {i : Nat} {s : SV}, RepL env ρ l vs → l[i]? = some s → ∃ v, vs[i]? = some v ∧ Rep env ρ s v
  | [], vs, i, s, h, hi => by simp at hi
  | x :: l, vs, 0, s, h, hi => by
      obtain ⟨v, vs', e1, e2, rfl⟩ := h
      simp at hi
      exact ⟨v, by simp, hi ▸ e1⟩
  | x :: l, vs, i + 1, s, h, hi => by
      obtain ⟨v, vs', e1, e2, rfl⟩ := h
      simp at hi
      obtain ⟨u, hu, hr⟩ := e2.get hi
      exact ⟨u, by simpa using hu, hr⟩

theorem RepL.set {env : Env} {ρ : Pl} : ∀ {l : List SV} {vs : List Value} {s : SV} {v : Value} (i : Nat), RepL env ρ l vs → Rep env ρ s v → RepL env ρ (l.set i s) (vs.set i v)
  | [], vs, s, v, i, h, hv => by rw [show vs = [] from h]; exact rfl
  | x :: l, vs, s, v, 0, h, hv => by
      obtain ⟨u, vs', e1, e2, rfl⟩ := h
      exact ⟨v, vs', hv, e2, rfl⟩
  | x :: l, vs, s, v, i + 1, h, hv => by
      obtain ⟨u, vs', e1, e2, rfl⟩ := h
      exact ⟨u, vs'.set i v, e1, e2.set i hv, rfl⟩

theorem RepL.append {env : Env} {ρ : Pl} : ∀ {l l' : List SV} {vs vs' : List Value}, RepL env ρ l vs → RepL env ρ l' vs' → RepL env ρ (l ++ l') (vs ++ vs')
  | [], l', vs, vs', h, h' => by rw [show vs = [] from h]; exact h'
  | x :: l, l', vs, vs', h, h' => by
      obtain ⟨u, us, e1, e2, rfl⟩ := h
      exact ⟨u, us ++ vs', e1, e2.append h', rfl⟩

theorem RepL.take {env : Env} {ρ : Pl} : ∀ {l : List SV} {vs : List Value} (n : Nat), RepL env ρ l vs → RepL env ρ (l.take n) (vs.take n)
  | l, vs, 0, h => by simp [RepL]
  | [], vs, n + 1, h => by rw [show vs = [] from h]; simp [RepL]
  | x :: l, vs, n + 1, h => by
      obtain ⟨u, us, e1, e2, rfl⟩ := h
      exact ⟨u, us.take n, e1, e2.take n, rfl⟩

theorem RepL.drop {env : Env} {ρ : Pl} : ∀ {l : List SV} {vs : List Value} (n : Nat), RepL env ρ l vs → RepL env ρ (l.drop n) (vs.drop n)
  | l, vs, 0, h => by simpa using h
  | [], vs, n + 1, h => by rw [show vs = [] from h]; simp [RepL]
  | x :: l, vs, n + 1, h => by
      obtain ⟨u, us, e1, e2, rfl⟩ := h
      exact e2.drop n

/-! ### blocks -/

structure LoopB where
  st : LoopState
  pend : Option Code
  fn : Nat
  nt : Nat
  tm : T SV
  params : List Nat
  assign : Code
  body : Code
  d : Nat

inductive Blk where
  | cells (l : List SV) (t : TypeId)
  | ro (l : List SV)
  | arr (sig : List IntKind) (F : Nat) (n : E)
  | loop (L : LoopB)
  | dfr (taken : Bool)
  | grow (l : List SV) (t : TypeId) (m : Nat)
  | dead

def Blk.isDead : Blk → Bool
  | .dead => true
  | _ => false

def Blk.own : Blk → Bool
  | .ro _ | .arr .. => false
  | _ => true

/-! ### trees -/

inductive Out where
  | val (v : SV) (cx : Ctx)

structure Log where
  lo : Nat
  hi : Nat
  tch : List Nat
  wr : List Nat

inductive Tree where
  | leaf (o : Out)
  | ite (c : BE) (t e : Tree)
  | need (c : BE) (t : Tree)
  | fail (why : String)
  | get (b : Nat) (k : Blk → Tree)
  | set (b : Nat) (v : Blk) (t : Tree)
  | new (v : Blk) (k : Nat → Tree)
  | seg (t : Tree) (k : Out → Log → Tree)

structure St where
  h : T Blk
  nx : Nat
  mrk : Nat
  tch : List Nat
  wr : List Nat

def St.touch (s : St) (b : Nat) : St := bif Nat.blt b s.mrk then { s with tch := b :: s.tch } else s
def St.put (s : St) (b : Nat) (v : Blk) : St :=
  bif Nat.blt b s.mrk then { s with h := s.h.set b v, tch := b :: s.tch, wr := b :: s.wr } else { s with h := s.h.set b v }
def St.add (s : St) (v : Blk) : St := { s with h := s.h.set s.nx v, nx := s.nx + 1 }
def St.inner (s : St) : St := { s with mrk := s.nx, tch := [], wr := [] }
def St.outer (s s' : St) : St := { s' with mrk := s.mrk, tch := s'.tch.filter (Nat.blt · s.mrk) ++ s.tch, wr := s'.wr.filter (Nat.blt · s.mrk) ++ s.wr }

inductive PT where
  | leaf (o : Out) (s : St)
  | ite (c : BE) (t e : PT)
  | need (c : BE) (t : PT)
  | fail (why : String)

def PT.bind : PT → (Out → St → PT) → PT
  | .leaf o s, f => f o s
  | .ite c t e, f => .ite c (t.bind f) (e.bind f)
  | .need c t, f => .need c (t.bind f)
  | .fail y, _ => .fail y

def PT.at (env : Env) : PT → Option (Out × St)
  | .leaf o s => some (o, s)
  | .ite c t e => if c.den env = true then t.at env else e.at env
  | .need c t => if c.den env = true then t.at env else none
  | .fail _ => none

def run : Tree → St → PT
  | .leaf o, s => .leaf o s
  | .ite c t e, s => .ite c (run t s) (run e s)
  | .need c t, s => .need c (run t s)
  | .fail y, _ => .fail y
  | .get b k, s => match s.h.get b with
    | some v => bif Nat.blt b s.nx then run (k v) (s.touch b) else .fail "get far"
    | none => .fail "get"
  | .set b v t, s => match s.h.get b with
    | some _ => bif Nat.blt b s.nx then run t (s.put b v) else .fail "set far"
    | none => .fail "set"
  | .new v k, s => match s.h.get s.nx with
    | none => run (k s.nx) (s.add v)
    | some _ => .fail "new"
  | .seg t k, s => (run t s.inner).bind fun o s' => run (k o ⟨s.nx, s'.nx, s'.tch, s'.wr⟩) (s.outer s')

theorem PT.at_bind (env : Env) (f : Out → St → PT) : ∀ t : PT, (t.bind f).at env = (t.at env).bind fun p => (f p.1 p.2).at env
  | .leaf o s => rfl
  | .ite c t e => by
      simp only [PT.bind, PT.at]
      split
      · exact PT.at_bind env f t
      · exact PT.at_bind env f e
  | .need c t => by
      simp only [PT.bind, PT.at]
      split
      · exact PT.at_bind env f t
      · rfl
  | .fail y => rfl

def runE (env : Env) (t : Tree) (s : St) : Option (Out × St) := (run t s).at env

section runE
variable {env : Env} {s : St} {r : Out × St}
theorem runE_ite {c : BE} {t e : Tree} : runE env (.ite c t e) s = if c.den env = true then runE env t s else runE env e s := rfl
theorem runE_need {c : BE} {t : Tree} (h : runE env (.need c t) s = some r) : c.den env = true ∧ runE env t s = some r := by
  have e : runE env (.need c t) s = if c.den env = true then runE env t s else none := rfl
  rw [e] at h
  split at h
  · exact ⟨‹_›, h⟩
  · cases h
theorem runE_fail {y : String} (h : runE env (.fail y) s = some r) : False := by cases h
theorem blt_dec (a b : Nat) : Nat.blt a b = decide (a < b) := by
  by_cases h : a < b
  · rw [decide_eq_true h, Nat.blt_eq]; exact h
  · rw [decide_eq_false h]
    cases hb : Nat.blt a b with
    | false => rfl
    | true => rw [Nat.blt_eq] at hb; exact absurd hb h
theorem runE_get {b : Nat} {k : Blk → Tree} (h : runE env (.get b k) s = some r) : ∃ v, s.h.get b = some v ∧ b < s.nx ∧ runE env (k v) (s.touch b) = some r := by
  simp only [runE, run, blt_dec] at h
  split at h
  · by_cases hb : b < s.nx
    · simp only [hb, decide_true, cond_true] at h
      exact ⟨_, by assumption, hb, h⟩
    · simp only [hb, decide_false, cond_false] at h
      cases h
  · cases h
theorem runE_set {b : Nat} {v : Blk} {t : Tree} (h : runE env (.set b v t) s = some r) : ∃ u, s.h.get b = some u ∧ b < s.nx ∧ runE env t (s.put b v) = some r := by
  simp only [runE, run, blt_dec] at h
  split at h
  · by_cases hb : b < s.nx
    · simp only [hb, decide_true, cond_true] at h
      exact ⟨_, by assumption, hb, h⟩
    · simp only [hb, decide_false, cond_false] at h
      cases h
  · cases h
theorem runE_new {v : Blk} {k : Nat → Tree} (h : runE env (.new v k) s = some r) : s.h.get s.nx = none ∧ runE env (k s.nx) (s.add v) = some r := by
  simp only [runE, run] at h
  split at h
  · exact ⟨by assumption, h⟩
  · cases h
theorem runE_seg {t : Tree} {k : Out → Log → Tree} (h : runE env (.seg t k) s = some r) :
    ∃ o s', runE env t s.inner = some (o, s') ∧ runE env (k o ⟨s.nx, s'.nx, s'.tch, s'.wr⟩) (s.outer s') = some r := by
  simp only [runE, run, PT.at_bind] at h
  rw [Option.bind_eq_some_iff] at h
  obtain ⟨⟨o, s'⟩, h1, h2⟩ := h
  exact ⟨o, s', h1, h2⟩
theorem runE_get' {b : Nat} {k : Blk → Tree} {v : Blk} (hv : s.h.get b = some v) (hb : b < s.nx) : runE env (.get b k) s = runE env (k v) (s.touch b) := by
  simp only [runE, run, hv, blt_dec, hb, decide_true, cond_true]
theorem runE_set' {b : Nat} {v u : Blk} {t : Tree} (hv : s.h.get b = some u) (hb : b < s.nx) : runE env (.set b v t) s = runE env t (s.put b v) := by
  simp only [runE, run, hv, blt_dec, hb, decide_true, cond_true]
theorem runE_new' {v : Blk} {k : Nat → Tree} (hv : s.h.get s.nx = none) : runE env (.new v k) s = runE env (k s.nx) (s.add v) := by
  simp only [runE, run, hv]
theorem runE_seg' {t : Tree} {k : Out → Log → Tree} {o : Out} {s' : St} (h : runE env t s.inner = some (o, s')) :
    runE env (.seg t k) s = runE env (k o ⟨s.nx, s'.nx, s'.tch, s'.wr⟩) (s.outer s') := by
  simp only [runE] at h
  simp only [runE, run, PT.at_bind, h, Option.bind_some]
end runE

theorem St.touch_h (s : St) (b : Nat) : (s.touch b).h = s.h := by unfold St.touch; cases Nat.blt b s.mrk <;> rfl
theorem St.touch_nx (s : St) (b : Nat) : (s.touch b).nx = s.nx := by unfold St.touch; cases Nat.blt b s.mrk <;> rfl
theorem St.touch_mrk (s : St) (b : Nat) : (s.touch b).mrk = s.mrk := by unfold St.touch; cases Nat.blt b s.mrk <;> rfl
theorem St.put_h (s : St) (b : Nat) (v : Blk) : (s.put b v).h = s.h.set b v := by unfold St.put; cases Nat.blt b s.mrk <;> rfl
theorem St.put_nx (s : St) (b : Nat) (v : Blk) : (s.put b v).nx = s.nx := by unfold St.put; cases Nat.blt b s.mrk <;> rfl
theorem St.put_mrk (s : St) (b : Nat) (v : Blk) : (s.put b v).mrk = s.mrk := by unfold St.put; cases Nat.blt b s.mrk <;> rfl
theorem St.touch_wr (s : St) (b : Nat) : (s.touch b).wr = s.wr := by unfold St.touch; cases Nat.blt b s.mrk <;> rfl
theorem St.touch_tch (s : St) (b : Nat) : (s.touch b).tch = if b < s.mrk then b :: s.tch else s.tch := by
  unfold St.touch; rw [blt_dec]; by_cases h : b < s.mrk <;> simp [h]
theorem St.put_tch (s : St) (b : Nat) (v : Blk) : (s.put b v).tch = if b < s.mrk then b :: s.tch else s.tch := by
  unfold St.put; rw [blt_dec]; by_cases h : b < s.mrk <;> simp [h]
theorem St.put_wr (s : St) (b : Nat) (v : Blk) : (s.put b v).wr = if b < s.mrk then b :: s.wr else s.wr := by
  unfold St.put; rw [blt_dec]; by_cases h : b < s.mrk <;> simp [h]

/-- what a run leaves of the counters -/
structure Grows (s s' : St) : Prop where
  nx : s.nx ≤ s'.nx
  mrk : s'.mrk = s.mrk
  tch : ∀ b, b ∈ s.tch → b ∈ s'.tch
  wr : ∀ b, b ∈ s.wr → b ∈ s'.wr
  low : ∀ b, b ∈ s'.tch → b ∈ s.tch ∨ b < s.mrk
  sub : ∀ b, b ∈ s'.wr → b ∈ s.wr ∨ b ∈ s'.tch

theorem Grows.refl (s : St) : Grows s s := ⟨Nat.le_refl _, rfl, fun _ h => h, fun _ h => h, fun _ h => .inl h, fun _ h => .inl h⟩
theorem Grows.trans {a b c : St} (h : Grows a b) (k : Grows b c) : Grows a c :=
  ⟨Nat.le_trans h.nx k.nx, k.mrk.trans h.mrk, fun x e => k.tch x (h.tch x e), fun x e => k.wr x (h.wr x e), fun x e => by
    rcases k.low x e with e | e
    · exact h.low x e
    · exact .inr (h.mrk ▸ e), fun x e => by
    rcases k.sub x e with e | e
    · rcases h.sub x e with e | e
      · exact .inl e
      · exact .inr (k.tch x e)
    · exact .inr e⟩
theorem Grows.touch (s : St) (b : Nat) : Grows s (s.touch b) := by
  refine ⟨by rw [St.touch_nx]; exact Nat.le_refl _, St.touch_mrk s b, ?_, ?_, ?_, ?_⟩
  · intro x hx; rw [St.touch_tch]; split <;> simp [hx]
  · intro x hx; rw [St.touch_wr]; exact hx
  · intro x hx
    rw [St.touch_tch] at hx
    split at hx
    · simp at hx; rcases hx with rfl | hx
      · exact .inr (by assumption)
      · exact .inl hx
    · exact .inl hx
  · intro x hx; rw [St.touch_wr] at hx; exact .inl hx
theorem Grows.put (s : St) (b : Nat) (v : Blk) : Grows s (s.put b v) := by
  refine ⟨by rw [St.put_nx]; exact Nat.le_refl _, St.put_mrk s b v, ?_, ?_, ?_, ?_⟩
  · intro x hx; rw [St.put_tch]; split <;> simp [hx]
  · intro x hx; rw [St.put_wr]; split <;> simp [hx]
  · intro x hx
    rw [St.put_tch] at hx
    split at hx
    · simp at hx; rcases hx with rfl | hx
      · exact .inr (by assumption)
      · exact .inl hx
    · exact .inl hx
  · intro x hx
    rw [St.put_wr] at hx
    rw [St.put_tch]
    split at hx
    · rename_i hb
      simp at hx; rcases hx with rfl | hx
      · exact .inr (by simp [hb])
      · exact .inl hx
    · exact .inl hx
theorem Grows.add (s : St) (v : Blk) : Grows s (s.add v) :=
  ⟨Nat.le_succ _, rfl, fun _ h => h, fun _ h => h, fun _ h => .inl h, fun _ h => .inl h⟩
theorem Grows.outer {s s' : St} (h : Grows s.inner s') : Grows s (s.outer s') := by
  refine ⟨h.nx, rfl, ?_, ?_, ?_, ?_⟩
  · intro b hb; simp [St.outer, hb]
  · intro b hb; simp [St.outer, hb]
  · intro b hb
    simp [St.outer, blt_dec] at hb
    rcases hb with hb | hb
    · exact .inr hb.2
    · exact .inl hb
  · intro b hb
    simp [St.outer, blt_dec] at hb ⊢
    rcases hb with hb | hb
    · rcases h.sub b hb.1 with h1 | h1
      · simp [St.inner] at h1
      · exact .inr (.inl ⟨h1, hb.2⟩)
    · exact .inl hb

theorem grows {env : Env} : ∀ (t : Tree) {s s' : St} {o : Out}, runE env t s = some (o, s') → Grows s s'
  | .leaf o, s, s', o', h => by
      simp only [runE, run, PT.at] at h
      cases h
      exact Grows.refl _
  | .ite c t e, s, s', o', h => by
      rw [runE_ite] at h
      split at h
      · exact grows t h
      · exact grows e h
  | .need c t, s, s', o', h => grows t (runE_need h).2
  | .fail y, s, s', o', h => (runE_fail h).elim
  | .get b k, s, s', o', h => by
      obtain ⟨v, _, _, h2⟩ := runE_get h
      exact (Grows.touch s b).trans (grows (k v) h2)
  | .set b v t, s, s', o', h => by
      obtain ⟨u, _, _, h2⟩ := runE_set h
      exact (Grows.put s b v).trans (grows t h2)
  | .new v k, s, s', o', h => by
      obtain ⟨_, h2⟩ := runE_new h
      exact (Grows.add s v).trans (grows (k _) h2)
  | .seg t k, s, s', o', h => by
      obtain ⟨o1, s1, h1, h2⟩ := runE_seg h
      exact (Grows.outer (grows t h1)).trans (grows (k _ _) h2)

/-- a run turns only what it says that it has written, and what it has made -/
theorem keeps {env : Env} : ∀ (t : Tree) {s s' : St} {o : Out}, runE env t s = some (o, s') → ∀ b, b ∉ s'.wr → (b < s.mrk ∨ s'.nx ≤ b) → s.mrk ≤ s.nx → s'.h.get b = s.h.get b
  | .leaf o, s, s', o', h, b, hw, hb, hm => by
      simp only [runE, run, PT.at] at h
      cases h
      rfl
  | .ite c t e, s, s', o', h, b, hw, hb, hm => by
      rw [runE_ite] at h
      split at h
      · exact keeps t h b hw hb hm
      · exact keeps e h b hw hb hm
  | .need c t, s, s', o', h, b, hw, hb, hm => keeps t (runE_need h).2 b hw hb hm
  | .fail y, s, s', o', h, b, hw, hb, hm => (runE_fail h).elim
  | .get c k, s, s', o', h, b, hw, hb, hm => by
      obtain ⟨v, _, _, h2⟩ := runE_get h
      have := keeps (k v) h2 b hw (by rw [St.touch_mrk]; exact hb) (by rw [St.touch_mrk, St.touch_nx]; exact hm)
      rwa [St.touch_h] at this
  | .set c v t, s, s', o', h, b, hw, hb, hm => by
      obtain ⟨u, hu, hlt, h2⟩ := runE_set h
      have e := keeps t h2 b hw (by rw [St.put_mrk]; exact hb) (by rw [St.put_mrk, St.put_nx]; exact hm)
      rw [e, St.put_h, T.get_set]
      split
      · rename_i hbc
        subst hbc
        exfalso
        have g := grows t h2
        rcases hb with hb | hb
        · exact hw (g.wr _ (by rw [St.put_wr, if_pos hb]; simp))
        · have := g.nx
          rw [St.put_nx] at this
          omega
      · rfl
  | .new v k, s, s', o', h, b, hw, hb, hm => by
      obtain ⟨_, h2⟩ := runE_new h
      have g := grows (k _) h2
      have gn : s.nx + 1 ≤ s'.nx := g.nx
      have e := keeps (k _) h2 b hw (by simpa [St.add] using hb) (by simp [St.add]; omega)
      rw [e]
      simp only [St.add, T.get_set]
      rw [if_neg (by omega)]
  | .seg t k, s, s', o', h, b, hw, hb, hm => by
      obtain ⟨o1, s1, h1, h2⟩ := runE_seg h
      have g1 := grows t h1
      have g2 := grows (k _ _) h2
      have n1 : s.nx ≤ s1.nx := g1.nx
      have n2 : s1.nx ≤ s'.nx := g2.nx
      have e2 := keeps (k _ _) h2 b hw (by simpa [St.outer] using hb) (by simp [St.outer]; omega)
      rw [e2]
      have hw1 : b ∉ s1.wr := by
        intro hin
        rcases hb with hb | hb
        · exact hw (g2.wr b (by simp [St.outer, blt_dec, hin, hb]))
        · rcases g1.sub b hin with h3 | h3
          · simp [St.inner] at h3
          · rcases g1.low b h3 with h4 | h4
            · simp [St.inner] at h4
            · simp [St.inner] at h4; omega
      have e1 := keeps t h1 b hw1 (by simp [St.inner]; omega) (by simp [St.inner])
      simpa [St.outer, St.inner] using e1

/-- a run goes alike over a store that is alike where it looks -/
theorem frame {env : Env} : ∀ (t : Tree) {s s' : St} {o : Out}, runE env t s = some (o, s') → s.mrk ≤ s.nx → ∀ (s2 : St), s2.nx = s.nx → s2.mrk = s.mrk →
    s2.tch = s.tch → s2.wr = s.wr → (∀ b, b ∈ s'.tch ∨ (s.mrk ≤ b ∧ b < s'.nx) → s2.h.get b = s.h.get b) →
    ∃ s2', runE env t s2 = some (o, s2') ∧ s2'.nx = s'.nx ∧ s2'.mrk = s'.mrk ∧ s2'.tch = s'.tch ∧ s2'.wr = s'.wr ∧
      (∀ b, b ∈ s'.tch ∨ (s.mrk ≤ b ∧ b < s'.nx) → s2'.h.get b = s'.h.get b)
  | .leaf o, s, s', o', h, hm, s2, hn, hk, ht, hwr, ha => by
      simp only [runE, run, PT.at] at h
      cases h
      exact ⟨s2, rfl, hn, hk, ht, hwr, ha⟩
  | .ite c t e, s, s', o', h, hm, s2, hn, hk, ht, hwr, ha => by
      rw [runE_ite] at h
      rw [runE_ite]
      split at h
      · rename_i hc; rw [if_pos hc]; exact frame t h hm s2 hn hk ht hwr ha
      · rename_i hc; rw [if_neg hc]; exact frame e h hm s2 hn hk ht hwr ha
  | .need c t, s, s', o', h, hm, s2, hn, hk, ht, hwr, ha => by
      obtain ⟨hc, h2⟩ := runE_need h
      have e : runE env (.need c t) s2 = runE env t s2 := by simp only [runE, run, PT.at, hc, if_true]
      rw [e]
      exact frame t h2 hm s2 hn hk ht hwr ha
  | .fail y, s, s', o', h, hm, s2, hn, hk, ht, hwr, ha => (runE_fail h).elim
  | .get c k, s, s', o', h, hm, s2, hn, hk, ht, hwr, ha => by
      obtain ⟨v, hv, hlt, h2⟩ := runE_get h
      have g := grows (k v) h2
      have gn : s.nx ≤ s'.nx := by have := g.nx; rwa [St.touch_nx] at this
      have hc : s2.h.get c = s.h.get c := by
        refine ha c ?_
        by_cases hcm : c < s.mrk
        · exact .inl (g.tch c (by rw [St.touch_tch, if_pos hcm]; simp))
        · exact .inr ⟨by omega, by omega⟩
      rw [runE_get' (hc.trans hv) (by omega)]
      have := frame (k v) h2 (by rw [St.touch_mrk, St.touch_nx]; exact hm) (s2.touch c) (by rw [St.touch_nx, St.touch_nx, hn]) (by rw [St.touch_mrk, St.touch_mrk, hk])
        (by rw [St.touch_tch, St.touch_tch, hk, ht]) (by rw [St.touch_wr, St.touch_wr, hwr]) (by rw [St.touch_mrk, St.touch_h, St.touch_h]; exact ha)
      rw [St.touch_mrk] at this
      exact this
  | .set c v t, s, s', o', h, hm, s2, hn, hk, ht, hwr, ha => by
      obtain ⟨u, hu, hlt, h2⟩ := runE_set h
      have g := grows t h2
      have gn : s.nx ≤ s'.nx := by have := g.nx; rwa [St.put_nx] at this
      have hc : s2.h.get c = s.h.get c := by
        refine ha c ?_
        by_cases hcm : c < s.mrk
        · exact .inl (g.tch c (by rw [St.put_tch, if_pos hcm]; simp))
        · exact .inr ⟨by omega, by omega⟩
      rw [runE_set' (hc.trans hu) (by omega)]
      have := frame t h2 (by rw [St.put_mrk, St.put_nx]; exact hm) (s2.put c v) (by rw [St.put_nx, St.put_nx, hn]) (by rw [St.put_mrk, St.put_mrk, hk])
        (by rw [St.put_tch, St.put_tch, hk, ht]) (by rw [St.put_wr, St.put_wr, hwr, hk])
        (by
          rw [St.put_mrk, St.put_h, St.put_h]
          intro b hb
          rw [T.get_set, T.get_set]
          split
          · rfl
          · exact ha b hb)
      rw [St.put_mrk] at this
      exact this
  | .new v k, s, s', o', h, hm, s2, hn, hk, ht, hwr, ha => by
      obtain ⟨hnone, h2⟩ := runE_new h
      have g := grows (k _) h2
      have gn : s.nx + 1 ≤ s'.nx := g.nx
      have hc : s2.h.get s2.nx = none := by
        rw [hn, ha s.nx (.inr ⟨hm, by omega⟩)]
        exact hnone
      rw [runE_new' hc, hn]
      have := frame (k s.nx) h2 (by simp [St.add]; omega) (s2.add v) (by simp [St.add, hn]) (by simp [St.add, hk]) (by simp [St.add, ht]) (by simp [St.add, hwr])
        (by
          intro b hb
          simp only [St.add, T.get_set, hn]
          split
          · rfl
          · exact ha b hb)
      exact this
  | .seg t k, s, s', o', h, hm, s2, hn, hk, ht, hwr, ha => by
      obtain ⟨o1, s1, h1, h2⟩ := runE_seg h
      have g1 := grows t h1
      have g2 := grows (k _ _) h2
      have n1 : s.nx ≤ s1.nx := g1.nx
      have n2 : s1.nx ≤ s'.nx := g2.nx
      have low : ∀ b, b ∈ s1.tch → b < s.nx := by
        intro b hb
        rcases g1.low b hb with h4 | h4
        · simp [St.inner] at h4
        · simpa [St.inner] using h4
      have sub : ∀ b, b ∈ s1.wr → b ∈ s1.tch := by
        intro b hb
        rcases g1.sub b hb with h4 | h4
        · simp [St.inner] at h4
        · exact h4
      obtain ⟨s3, r3, q1, q2, q3, q4, q5⟩ := frame t h1 (by simp [St.inner]) s2.inner (by simp [St.inner, hn]) (by simp [St.inner, hn]) (by simp [St.inner]) (by simp [St.inner])
        (by
          intro b hb
          show s2.h.get b = s.h.get b
          refine ha b ?_
          rcases hb with hb | hb
          · by_cases hbm : b < s.mrk
            · exact .inl (g2.tch b (by simp [St.outer, blt_dec, hb, hbm]))
            · have := low b hb
              exact .inr ⟨by omega, by omega⟩
          · simp [St.inner] at hb
            exact .inr ⟨by omega, by omega⟩)
      rw [runE_seg' r3, q1, q3, q4, hn]
      have := frame (k o1 ⟨s.nx, s1.nx, s1.tch, s1.wr⟩) h2 (by simp [St.outer]; omega) (s2.outer s3) (by simp [St.outer, q1]) (by simp [St.outer, hk])
        (by simp [St.outer, q3, hk, ht]) (by simp [St.outer, q4, hk, hwr])
        (by
          intro b hb
          show s3.h.get b = s1.h.get b
          by_cases hin : b ∈ s1.tch ∨ (s.nx ≤ b ∧ b < s1.nx)
          · exact q5 b hin
          · have hw1 : b ∉ s1.wr := fun h9 => hin (.inl (sub b h9))
            have hr1 : b < s.nx ∨ s1.nx ≤ b := by omega
            have k1 := keeps t h1 b hw1 (by simpa [St.inner] using hr1) (by simp [St.inner])
            have k2 := keeps t r3 b (by rw [q4]; exact hw1) (by rw [q1]; simpa [St.inner, hn] using hr1) (by simp [St.inner])
            rw [k1, k2]
            exact ha b hb)
      exact this

end Go.SX
