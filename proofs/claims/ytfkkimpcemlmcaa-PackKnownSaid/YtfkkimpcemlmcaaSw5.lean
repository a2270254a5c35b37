/- The store of named blocks stands for the model's memory; loads, stores, new blocks.
One operation: the reckoner's tree and the model's operation. -/
import Derived.Test.YtfkkimpcemlmcaaSw3
import Derived.Laws.StructEq
import Derived.LaidEqlPtr
import Derived.RangeFuncRecord
import Derived.RangeFuncNested
import Derived.Great.BuildSlice
import Derived.Laws.CopyRow
import Derived.Laws.Cells
import Derived.Laws.MakeOwn
import Derived.Laws.Slices
import Derived.ChangeKeysEq
namespace Go.SX
open Go Go.RowKit
set_option linter.unusedVariables false
set_option linter.unusedSimpArgs false
set_option linter.unusedSectionVars false

/-- slots -/
def TS (env : Env) (ρ : Pl) (tm : T SV) (tmps : Array Value) : Prop := ∀ t s, tm.get t = some s → ∃ v, tmps[t]? = some v ∧ Rep env ρ s v

theorem TS.mono {env : Env} {ρ ρ' : Pl} (h : ρ.le ρ') {tm : T SV} {tmps : Array Value} (ht : TS env ρ tm tmps) : TS env ρ' tm tmps :=
  fun t s e => let ⟨v, hv, hr⟩ := ht t s e; ⟨v, hv, hr.mono h⟩

def LoopS (env : Env) (ρ : Pl) (L : LoopB) (lp : Loop) : Prop :=
  lp.state = L.st ∧ lp.pending = L.pend ∧ lp.fn = L.fn ∧ lp.tmps.size = L.nt ∧ TS env ρ L.tm lp.tmps ∧ lp.params.toList = L.params ∧ lp.assign = L.assign ∧ lp.body = L.body ∧
    ∃ o, ρ L.d = some (lp.defers, o)

/-- the value of a cell: a bool is not 0 -/
def cellW (k : Option IntKind) (x : Int) : Value := match k with
  | some k => .int k x
  | none => .bool (x != 0)
theorem cellS_rep {env : Env} {ρ : Pl} (k : Option IntKind) (e : E) : Rep env ρ (cellS k e) (cellW k (e.den env)) := by
  cases k <;> simp [cellS, cellW, Rep, BE.den]
theorem denL_append (env : Env) : ∀ (l l' : List E), denL env (l ++ l') = denL env l ++ denL env l'
  | [], l' => rfl
  | e :: l, l' => by simp only [List.cons_append, denL, denL_append env l l']

theorem bigL_length (z : SV) (m : T SV) (n : Nat) : (bigL z m n).length = n := by simp [bigL]
theorem bigL_cut {z : SV} {m : T SV} {N off n : Nat} (h : off + n ≤ N) : ((List.range n).map fun j => (m.get (off + j)).getD z) = ((bigL z m N).drop off).take n := by
  apply List.ext_getElem?
  intro i
  by_cases hi : i < n
  · rw [List.getElem?_take, if_pos hi, List.getElem?_drop]
    simp only [bigL, List.getElem?_map]
    rw [List.getElem?_range hi, List.getElem?_range (by omega)]
    rfl
  · rw [List.getElem?_eq_none (by simp; omega), List.getElem?_eq_none (by simp [bigL]; omega)]
theorem bigL_set1 {z : SV} {m : T SV} {N off : Nat} (v : SV) : (bigL z m N).set off v = bigL z (m.set off v) N := by
  apply List.ext_getElem?
  intro i
  rw [List.getElem?_set]
  by_cases hi : i < N
  · by_cases ho : off = i
    · subst ho
      rw [if_pos rfl, if_pos (by rw [bigL_length]; exact hi)]
      simp only [bigL, List.getElem?_map]
      rw [List.getElem?_range hi]
      simp [T.get_set]
    · rw [if_neg ho]
      simp only [bigL, List.getElem?_map]
      rw [List.getElem?_range hi]
      simp [T.get_set, Ne.symm ho]
  · have e1 : (bigL z m N)[i]? = none := List.getElem?_eq_none (by rw [bigL_length]; omega)
    have e2 : (bigL z (m.set off v) N)[i]? = none := List.getElem?_eq_none (by rw [bigL_length]; omega)
    rw [e1, e2]
    split
    · rw [if_neg (by rw [bigL_length]; omega)]
    · rfl
theorem bigL_set {z : SV} {N : Nat} : ∀ (vs : List SV) (m : T SV) (off : Nat), setMany (bigL z m N) off vs = bigL z (setManyT m off vs) N
  | [], m, off => rfl
  | v :: vs, m, off => by simp only [setMany, setManyT]; rw [bigL_set1, bigL_set vs]

/-- a block of the store stands for an object of the memory, from cell o on -/
def BS (env : Env) (ρ : Pl) (ob : Option Obj) (o : Nat) : Blk → Prop
  | .cells l t => o = 0 ∧ ∃ cs, RepL env ρ l cs ∧ ob = some (.cells cs.toArray t (0, 0))
  | .ro l => ∃ c t fz cs, ob = some (.cells c t fz) ∧ RepL env ρ l cs ∧ ∀ (i : Nat) (v : Value), cs[i]? = some v → c[o + i]? = some v
  | .arr sig F as n => ∃ c t fz, ob = some (.cells c t fz) ∧ 0 ≤ n.den env ∧
      ∀ (i j : Nat) (k : Option IntKind), (i : Int) < n.den env → sig[j]? = some k → c[o + (sig.length * i + j)]? = some (cellW k (env.f (F + j) (denL env as ++ [(i : Int)]))) ∧
        ∀ kd, k = some kd → kd.min ≤ env.f (F + j) (denL env as ++ [(i : Int)]) ∧ env.f (F + j) (denL env as ++ [(i : Int)]) ≤ kd.max
  | .loop L => ∃ lp, ob = some (.loop lp) ∧ LoopS env ρ L lp
  | .dfr tk => ob = some (.deferred (if tk then none else some []))
  | .grow l t m => ∃ cs cur, RepL env ρ l cs ∧ ob = some (.cells cur t (0, 0)) ∧ cur.toList.take cs.length = cs ∧ o * m ≤ cur.size
  | .vec sig code n t => ∃ cur, ob = some (.cells cur t (0, 0)) ∧ o * sig.length ≤ cur.size ∧ n.den env ≤ (o : Int) ∧
      ∀ (i j : Nat) (k : Option IntKind), (i : Int) < n.den env → sig[j]? = some k → cur[sig.length * i + j]? = some (cellW k (rowGet sig.length j (code.den env) i))
  | .dead => ∃ x, ob = some x
  | .big z m n t => o = 0 ∧ ∃ cs, RepL env ρ (bigL z m n) cs ∧ ob = some (.cells cs.toArray t (0, 0))

/-- what a written row's code says of itself -/
def VecOK (env : Env) (sig : List (Option IntKind)) (code n : E) : Prop :=
  0 ≤ n.den env ∧ 0 < sig.length ∧ (dec (code.den env)).length = sig.length * (n.den env).toNat ∧
    ∀ (i j : Nat) (kd : IntKind), (i : Int) < n.den env → sig[j]? = some (some kd) → kd.min ≤ rowGet sig.length j (code.den env) i ∧ rowGet sig.length j (code.den env) i ≤ kd.max
def Blk.wf (env : Env) : Blk → Prop
  | .vec sig code n _ => VecOK env sig code n
  | _ => True

theorem LoopS.mono {env : Env} {ρ ρ' : Pl} (h : ρ.le ρ') {L : LoopB} {lp : Loop} (hl : LoopS env ρ L lp) : LoopS env ρ' L lp := by
  obtain ⟨a, b, c, d, e, f, g, i, o, j⟩ := hl
  exact ⟨a, b, c, d, e.mono h, f, g, i, o, h _ _ j⟩

theorem BS.mono {env : Env} {ρ ρ' : Pl} (h : ρ.le ρ') {ob : Option Obj} {o : Nat} {v : Blk} (hb : BS env ρ ob o v) : BS env ρ' ob o v := by
  cases v with
  | cells l t => obtain ⟨ho, cs, hr, e⟩ := hb; exact ⟨ho, cs, hr.mono h, e⟩
  | ro l => obtain ⟨c, t, fz, cs, e, hr, hc⟩ := hb; exact ⟨c, t, fz, cs, e, hr.mono h, hc⟩
  | arr sig F as n => exact hb
  | loop L => obtain ⟨lp, e, hl⟩ := hb; exact ⟨lp, e, hl.mono h⟩
  | dfr tk => exact hb
  | grow l t m => obtain ⟨cs, cur, hr, e⟩ := hb; exact ⟨cs, cur, hr.mono h, e⟩
  | dead => exact hb
  | vec sig code n t => exact hb
  | big z m n t => obtain ⟨ho, cs, hr, e⟩ := hb; exact ⟨ho, cs, hr.mono h, e⟩

structure HS (env : Env) (ρ : Pl) (B : Nat) (h : T Blk) (w : World) : Prop where
  blk : ∀ b v, h.get b = some v → ∃ r o, ρ b = some (r, o) ∧ (v.void env o = false → BS env ρ (w.heap[r]?) o v ∧ (v.own = true → B ≤ r) ∧ (v.own = false → r < B))
  dom : ∀ b p, ρ b = some p → h.get b ≠ none
  inj : ∀ b b' r o o', ρ b = some (r, o) → ρ b' = some (r, o') → B ≤ r → Solid env o (h.get b) → Solid env o' (h.get b') → b = b'
  size : B ≤ w.heap.size
  wf : ∀ b v, h.get b = some v → v.wf env
  rows : RowFn env.f

def Blk.isVec : Blk → Bool
  | .vec .. => true
  | _ => false
theorem Blk.own_void {env : Env} {c : Nat} {v : Blk} (h : v.own = true) (hd : v.isDead = false) (hv : v.isVec = false) : v.void env c = false := by cases v <;> simp [Blk.own, Blk.void, Blk.isDead, Blk.isVec] at *
theorem Blk.void_dead {env : Env} {c : Nat} {v : Blk} (h : v.void env c = false) : v.isDead = false := by cases v <;> simp [Blk.void, Blk.isDead] at *
theorem Solid.of {env : Env} {c : Nat} {v : Blk} (h : v.void env c = false) : Solid env c (some v) := fun u e => by cases e; exact h
theorem Solid.void {env : Env} {c : Nat} {v : Blk} (h : Solid env c (some v)) : v.void env c = false := h v rfl
theorem Solid.dead {env : Env} {c : Nat} : ¬ Solid env c (some .dead) := fun h => by have := h _ rfl; cases this

theorem HS.at' {env : Env} {ρ : Pl} {B : Nat} {h : T Blk} {w : World} (hs : HS env ρ B h w) {b : Nat} {v : Blk} {r o : Nat} (hg : h.get b = some v) (hp : ρ b = some (r, o)) (hn : v.void env o = false) :
    BS env ρ (w.heap[r]?) o v ∧ (v.own = true → B ≤ r) ∧ (v.own = false → r < B) := by
  obtain ⟨r', o', e, h1⟩ := hs.blk b v hg
  rw [hp] at e
  cases e
  exact h1 hn
theorem HS.at {env : Env} {ρ : Pl} {B : Nat} {h : T Blk} {w : World} (hs : HS env ρ B h w) (b : Nat) (v : Blk) (hg : h.get b = some v) (hn : ∀ c, v.void env c = false) :
    ∃ r o, ρ b = some (r, o) ∧ BS env ρ (w.heap[r]?) o v ∧ (v.own = true → B ≤ r) ∧ (v.own = false → r < B) := by
  obtain ⟨r, o, e, h1⟩ := hs.blk b v hg
  exact ⟨r, o, e, h1 (hn o)⟩

theorem BS.some {env : Env} {ρ : Pl} {ob : Option Obj} {o : Nat} {v : Blk} (hb : BS env ρ ob o v) : ∃ x, ob = some x := by
  cases v with
  | cells l t => obtain ⟨ho, cs, hr, e⟩ := hb; exact ⟨_, e⟩
  | ro l => obtain ⟨c, t, fz, cs, e, hr, hc⟩ := hb; exact ⟨_, e⟩
  | arr sig F as n => obtain ⟨c, t, fz, e, _⟩ := hb; exact ⟨_, e⟩
  | loop L => obtain ⟨lp, e, hl⟩ := hb; exact ⟨_, e⟩
  | dfr tk => exact ⟨_, hb⟩
  | grow l t m => obtain ⟨cs, cur, hr, e, _⟩ := hb; exact ⟨_, e⟩
  | dead => exact hb
  | vec sig code n t => obtain ⟨cur, e, _⟩ := hb; exact ⟨_, e⟩
  | big z m n t => obtain ⟨ho, cs, hr, e⟩ := hb; exact ⟨_, e⟩

theorem HS.lt {env : Env} {ρ : Pl} {B : Nat} {h : T Blk} {w : World} (hs : HS env ρ B h w) {b r o : Nat} {v : Blk} (hb : ρ b = some (r, o)) (hg : h.get b = some v) (hn : v.void env o = false) : r < w.heap.size := by
  obtain ⟨hbs, _⟩ := hs.at' hg hb hn
  obtain ⟨x, hx⟩ := hbs.some
  exact (Array.getElem?_eq_some_iff.1 hx).1
theorem HS.lt' {env : Env} {ρ : Pl} {B : Nat} {h : T Blk} {w : World} (hs : HS env ρ B h w) {b r o : Nat} (hb : ρ b = some (r, o)) (hsol : Solid env o (h.get b)) : r < w.heap.size := by
  cases hg : h.get b with
  | none => exact absurd hg (hs.dom b _ hb)
  | some v => rw [hg] at hsol; exact hs.lt hb hg hsol.void

/-- a world that has all of the old blocks as they were -/
theorem HS.later {env : Env} {ρ : Pl} {B : Nat} {h : T Blk} {w w' : World} (hs : HS env ρ B h w) (hk : ∀ k, k < w.heap.size → w'.heap[k]? = w.heap[k]?)
    (hz : w.heap.size ≤ w'.heap.size) : HS env ρ B h w' := by
  refine ⟨?_, hs.dom, hs.inj, Nat.le_trans hs.size hz, hs.wf, hs.rows⟩
  intro b v hb
  obtain ⟨r, o, e, h1⟩ := hs.blk b v hb
  refine ⟨r, o, e, fun hv => ?_⟩
  rw [hk r (hs.lt e hb hv)]
  exact h1 hv

theorem HS.below {env : Env} {ρ : Pl} {B : Nat} {h : T Blk} {w w' : World} (hs : HS env ρ B h w) (hb : Below w.heap.size w w') : HS env ρ B h w' :=
  hs.later hb.block hb.size

def Pl.upd (ρ : Pl) (n r c : Nat) : Pl := fun b => if b = n then some (r, c) else ρ b

theorem HS.fresh {env : Env} {ρ : Pl} {B : Nat} {h : T Blk} {w : World} (hs : HS env ρ B h w) {n : Nat} (hn : h.get n = none) (r c : Nat) : ρ.le (ρ.upd n r c) := by
  have hρn : ρ n = none := by
    cases e : ρ n with
    | none => rfl
    | some p => exact absurd hn (hs.dom n p e)
  intro b p e
  unfold Pl.upd
  split
  · rename_i hbn; subst hbn; rw [hρn] at e; cases e
  · exact e

theorem HS.allocO {env : Env} {ρ : Pl} {B : Nat} {h : T Blk} {w : World} (hs : HS env ρ B h w) {n : Nat} (hn : h.get n = none) {v : Blk} (hv : v.own = true) {ob : Obj} (c : Nat)
    (hb : ∀ ρ', ρ.le ρ' → BS env ρ' (some ob) c v) (hw : v.wf env := by exact trivial) :
    ρ.le (ρ.upd n w.heap.size c) ∧ ρ.upd n w.heap.size c n = some (w.heap.size, c) ∧ HS env (ρ.upd n w.heap.size c) B (h.set n v) (w.alloc ob) := by
  have hle := hs.fresh hn w.heap.size c
  refine ⟨hle, by simp [Pl.upd], ?_, ?_, ?_, ?_, ?_, hs.rows⟩
  · intro b u hbu
    rw [T.get_set] at hbu
    split at hbu
    · rename_i hbn
      subst hbn
      cases hbu
      refine ⟨w.heap.size, c, by simp [Pl.upd], fun _ => ⟨?_, fun _ => hs.size, fun e => by rw [hv] at e; cases e⟩⟩
      have : (w.alloc ob).heap[w.heap.size]? = some ob := by
        show (w.heap.push ob)[w.heap.size]? = some ob
        simp
      rw [this]
      exact hb _ hle
    · obtain ⟨r, o, e, h1⟩ := hs.blk b u hbu
      refine ⟨r, o, hle _ _ e, fun hu => ?_⟩
      rw [Below.heap_alloc w ob r (hs.lt e hbu hu)]
      exact ⟨(h1 hu).1.mono hle, (h1 hu).2⟩
  · intro b p e
    rw [T.get_set]
    split
    · simp
    · rename_i hbn
      simp only [Pl.upd, hbn, if_false] at e
      exact hs.dom b p e
  · intro b b' r o o' e e' hr hd hd'
    rw [T.get_set] at hd hd'
    simp only [Pl.upd] at e e'
    split at e <;> split at e'
    · omega
    · rename_i h1 h2
      cases e
      rw [if_neg h2] at hd'
      have := hs.lt' e' hd'
      omega
    · rename_i h1 h2
      cases e'
      rw [if_neg h1] at hd
      have := hs.lt' e hd
      omega
    · rename_i h1 h2
      rw [if_neg h1] at hd
      rw [if_neg h2] at hd'
      exact hs.inj b b' r o o' e e' hr hd hd'
  · show B ≤ (w.heap.push ob).size
    have := hs.size
    simp
    omega
  · intro b u hbu
    rw [T.get_set] at hbu
    split at hbu
    · cases hbu; exact hw
    · exact hs.wf b u hbu

theorem HS.alloc {env : Env} {ρ : Pl} {B : Nat} {h : T Blk} {w : World} (hs : HS env ρ B h w) {n : Nat} (hn : h.get n = none) {v : Blk} (hv : v.own = true) {ob : Obj}
    (hb : ∀ ρ', ρ.le ρ' → BS env ρ' (some ob) 0 v) (hw : v.wf env := by exact trivial) :
    ρ.le (ρ.upd n w.heap.size 0) ∧ ρ.upd n w.heap.size 0 n = some (w.heap.size, 0) ∧ HS env (ρ.upd n w.heap.size 0) B (h.set n v) (w.alloc ob) :=
  hs.allocO hn hv 0 hb hw

/-- what is left of other blocks when one object is turned -/
theorem HS.others {env : Env} {ρ : Pl} {B : Nat} {h : T Blk} {w w' : World} (hs : HS env ρ B h w) {b r o : Nat} {u : Blk} (hu : h.get b = some u) (huv : u.void env o = false) (hBr : B ≤ r)
    (hρ : ρ b = some (r, o)) (hk : ∀ k, k ≠ r → w'.heap[k]? = w.heap[k]?) {c : Nat} {x : Blk} (hc : h.get c = some x) (hcb : ¬ c = b) :
    ∃ r' o', ρ c = some (r', o') ∧ (x.void env o' = false → BS env ρ (w'.heap[r']?) o' x ∧ (x.own = true → B ≤ r') ∧ (x.own = false → r' < B)) := by
  obtain ⟨r', o', e, h1⟩ := hs.blk c x hc
  refine ⟨r', o', e, fun hv => ?_⟩
  obtain ⟨hbs, ho, ho'⟩ := h1 hv
  refine ⟨?_, ho, ho'⟩
  by_cases hrr : r' = r
  · subst hrr
    refine absurd (hs.inj c b r' o' o e hρ hBr ?_ ?_) hcb
    · rw [hc]; exact Solid.of hv
    · rw [hu]; exact Solid.of huv
  · rw [hk r' hrr]
    exact hbs

theorem HS.putV {env : Env} {ρ : Pl} {B : Nat} {h : T Blk} {w w' : World} (hs : HS env ρ B h w) {b r o : Nat} {u v : Blk} (hu : h.get b = some u) (huo : u.own = true) (huv : u.void env o = false) (hv : v.own = true)
    (hρ : ρ b = some (r, o)) (hz : w'.heap.size = w.heap.size) (hk : ∀ k, k ≠ r → w'.heap[k]? = w.heap[k]?) (hb : BS env ρ (w'.heap[r]?) o v) (hw : v.wf env) : HS env ρ B (h.set b v) w' := by
  have hBr : B ≤ r := (hs.at' hu hρ huv).2.1 huo
  refine ⟨?_, ?_, ?_, by rw [hz]; exact hs.size, ?_, hs.rows⟩
  · intro c x hc
    rw [T.get_set] at hc
    split at hc
    · rename_i hcb
      subst hcb
      cases hc
      exact ⟨r, o, hρ, fun _ => ⟨hb, fun _ => hBr, fun e => by rw [hv] at e; cases e⟩⟩
    · rename_i hcb
      exact hs.others hu huv hBr hρ hk hc hcb
  · intro c p e
    rw [T.get_set]
    split
    · simp
    · exact hs.dom c p e
  · intro c c' r' o1 o2 e e' hr hd hd'
    have key : ∀ x y, ρ x = some (r', y) → Solid env y ((h.set b v).get x) → Solid env y (h.get x) := by
      intro x y hy hx
      rw [T.get_set] at hx
      split at hx
      · rename_i hxb; subst hxb; rw [hρ] at hy; cases hy; rw [hu]; exact Solid.of huv
      · exact hx
    exact hs.inj c c' r' o1 o2 e e' hr (key c _ e hd) (key c' _ e' hd')
  · intro c x hc
    rw [T.get_set] at hc
    split at hc
    · cases hc; exact hw
    · exact hs.wf c x hc

theorem HS.put {env : Env} {ρ : Pl} {B : Nat} {h : T Blk} {w w' : World} (hs : HS env ρ B h w) {b r o : Nat} {u v : Blk} (hu : h.get b = some u) (huo : u.own = true) (hv : v.own = true)
    (hρ : ρ b = some (r, o)) (hz : w'.heap.size = w.heap.size) (hk : ∀ k, k ≠ r → w'.heap[k]? = w.heap[k]?) (hb : BS env ρ (w'.heap[r]?) o v) (hud : u.isDead = false := by rfl) (huv : u.isVec = false := by rfl)
    (hw : v.wf env := by exact trivial) : HS env ρ B (h.set b v) w' :=
  hs.putV hu huo (Blk.own_void huo hud huv) hv hρ hz hk hb hw

/-- a row that grew in its place: the old name is dead, a new one stands for the object -/
theorem HS.regrowV {env : Env} {ρ : Pl} {B : Nat} {h : T Blk} {w w' : World} (hs : HS env ρ B h w) {b r c n : Nat} {u v : Blk} (hu : h.get b = some u) (huo : u.own = true) (huv : u.void env c = false) (hv : v.own = true)
    (hρ : ρ b = some (r, c)) (hn : (h.set b .dead).get n = none) (hz : w'.heap.size = w.heap.size) (hk : ∀ k, k ≠ r → w'.heap[k]? = w.heap[k]?) (hb : ∀ ρ', ρ.le ρ' → BS env ρ' (w'.heap[r]?) c v) (hw : v.wf env) :
    ρ.le (ρ.upd n r c) ∧ ρ.upd n r c n = some (r, c) ∧ HS env (ρ.upd n r c) B ((h.set b .dead).set n v) w' := by
  have hn' : h.get n = none := by
    rw [T.get_set] at hn
    split at hn
    · cases hn
    · exact hn
  have hnb : ¬ n = b := by intro e; subst e; rw [hu] at hn'; cases hn'
  have hle := hs.fresh hn' r c
  have hBr : B ≤ r := (hs.at' hu hρ huv).2.1 huo
  refine ⟨hle, by simp [Pl.upd], ?_, ?_, ?_, by rw [hz]; exact hs.size, ?_, hs.rows⟩
  · intro d x hd
    rw [T.get_set] at hd
    split at hd
    · rename_i hdn
      subst hdn
      cases hd
      exact ⟨r, c, by simp [Pl.upd], fun _ => ⟨hb _ hle, fun _ => hBr, fun e => by rw [hv] at e; cases e⟩⟩
    · rw [T.get_set] at hd
      split at hd
      · rename_i hdn hdb
        subst hdb
        cases hd
        exact ⟨r, c, hle _ _ hρ, fun e => by cases e⟩
      · rename_i hdn hdb
        obtain ⟨r', o', e1, e2⟩ := hs.others hu huv hBr hρ hk hd hdb
        exact ⟨r', o', hle _ _ e1, fun hv' => ⟨(e2 hv').1.mono hle, (e2 hv').2⟩⟩
  · intro d p e
    rw [T.get_set]
    split
    · simp
    · rename_i hdn
      rw [T.get_set]
      split
      · simp
      · simp only [Pl.upd, hdn, if_false] at e
        exact hs.dom d p e
  · intro d d' r' o1 o2 e e' hr hd hd'
    -- a name that is not dead and not the new one stands elsewhere
    have key : ∀ x o, ¬ x = n → ρ x = some (r, o) → Solid env o (((h.set b .dead).set n v).get x) → False := by
      intro x o hxn hρx hxd
      rw [T.get_set, if_neg hxn, T.get_set] at hxd
      split at hxd
      · exact Solid.dead hxd
      · rename_i hxb
        exact hxb (hs.inj x b r o c hρx hρ hBr hxd (by rw [hu]; exact Solid.of huv))
    have low : ∀ x o, ¬ x = n → Solid env o (((h.set b .dead).set n v).get x) → Solid env o (h.get x) := by
      intro x o hxn hxd
      rw [T.get_set, if_neg hxn, T.get_set] at hxd
      split at hxd
      · exact (Solid.dead hxd).elim
      · exact hxd
    simp only [Pl.upd] at e e'
    split at e <;> split at e'
    · omega
    · rename_i h1 h2
      cases e
      exact (key d' _ h2 e' hd').elim
    · rename_i h1 h2
      cases e'
      exact (key d _ h1 e hd).elim
    · rename_i h1 h2
      exact hs.inj d d' r' o1 o2 e e' hr (low d _ h1 hd) (low d' _ h2 hd')
  · intro d x hd
    rw [T.get_set] at hd
    split at hd
    · cases hd; exact hw
    · rw [T.get_set] at hd
      split at hd
      · cases hd; exact trivial
      · exact hs.wf d x hd

theorem HS.regrow {env : Env} {ρ : Pl} {B : Nat} {h : T Blk} {w w' : World} (hs : HS env ρ B h w) {b r c n : Nat} {u v : Blk} (hu : h.get b = some u) (huo : u.own = true) (hud : u.isDead = false) (hv : v.own = true)
    (hρ : ρ b = some (r, c)) (hn : (h.set b .dead).get n = none) (hz : w'.heap.size = w.heap.size) (hk : ∀ k, k ≠ r → w'.heap[k]? = w.heap[k]?) (hb : ∀ ρ', ρ.le ρ' → BS env ρ' (w'.heap[r]?) c v)
    (huv : u.isVec = false := by rfl) (hw : v.wf env := by exact trivial) :
    ρ.le (ρ.upd n r c) ∧ ρ.upd n r c n = some (r, c) ∧ HS env (ρ.upd n r c) B ((h.set b .dead).set n v) w' :=
  hs.regrowV hu huo (Blk.own_void huo hud huv) hv hρ hn hz hk hb hw

/-- a name may die at any time -/
theorem HS.kill {env : Env} {ρ : Pl} {B : Nat} {h : T Blk} {w : World} (hs : HS env ρ B h w) {b : Nat} {u : Blk} (hu : h.get b = some u) : HS env ρ B (h.set b .dead) w := by
  refine ⟨?_, ?_, ?_, hs.size, ?_, hs.rows⟩
  · intro c x hc
    rw [T.get_set] at hc
    split at hc
    · rename_i hcb
      subst hcb
      cases hc
      obtain ⟨r, o, e, _⟩ := hs.blk c u hu
      exact ⟨r, o, e, fun e => by cases e⟩
    · exact hs.blk c x hc
  · intro c p e
    rw [T.get_set]
    split
    · simp
    · exact hs.dom c p e
  · intro c c' r o o' e e' hr hd hd'
    rw [T.get_set] at hd hd'
    split at hd
    · exact (Solid.dead hd).elim
    · split at hd'
      · exact (Solid.dead hd').elim
      · exact hs.inj c c' r o o' e e' hr hd hd'
  · intro c x hc
    rw [T.get_set] at hc
    split at hc
    · cases hc; exact trivial
    · exact hs.wf c x hc

/-! ### operands -/

theorem ofV1_ok {env : Env} {ρ : Pl} {v : Value} {s : SV} (h : ofV1 v = some s) : Rep env ρ s v := by
  unfold ofV1 at h
  split at h <;> first
    | (cases h; done)
    | (cases h; simp [Rep, E.den, BE.den, RepO, RepC]; done)

theorem ofL_ok {env : Env} {ρ : Pl} : ∀ {l : List Value} {s : List SV}, ofL l = some s → RepL env ρ s l
  | [], s, h => by cases h; exact rfl
  | v :: l, s, h => by
      simp only [ofL] at h
      split at h
      · rename_i a b h1 h2
        cases h
        exact ⟨v, l, ofV1_ok h1, ofL_ok h2, rfl⟩
      · cases h

theorem ofV_ok {env : Env} {ρ : Pl} {v : Value} {s : SV} (h : ofV v = some s) : Rep env ρ s v := by
  unfold ofV at h
  split at h
  · rename_i vs
    rw [Option.map_eq_some_iff] at h
    obtain ⟨l, hl, rfl⟩ := h
    exact ⟨vs.toList, ofL_ok hl, rfl⟩
  · rename_i vs
    rw [Option.map_eq_some_iff] at h
    obtain ⟨l, hl, rfl⟩ := h
    exact ⟨vs.toList, ofL_ok hl, rfl⟩
  · exact ofV1_ok h

/-- the operands in l mean what the slots say -/
def EvOK (env : Env) (ρ : Pl) (tm : T SV) (ev : Operand → Value) (l : List Operand) : Prop := ∀ x, x ∈ l → ∀ s, evalO tm x = some s → Rep env ρ s (ev x)

theorem evalL_ok {env : Env} {ρ : Pl} {tm : T SV} {ev : Operand → Value} : ∀ {l : List Operand} {s : List SV}, EvOK env ρ tm ev l → evalL tm l = some s → RepL env ρ s (l.map ev)
  | [], s, he, h => by cases h; exact rfl
  | x :: l, s, he, h => by
      simp only [evalL] at h
      split at h
      · rename_i a b h1 h2
        cases h
        exact ⟨ev x, l.map ev, he x (by simp) _ h1, evalL_ok (fun y hy => he y (by simp [hy])) h2, rfl⟩
      · cases h

theorem TS.evOK {env : Env} {ρ : Pl} {tm : T SV} {a : Act} (ht : TS env ρ tm a.tmps) (l : List Operand) : EvOK env ρ tm a.eval l := by
  intro x _ s h
  cases x with
  | tmp t =>
    obtain ⟨v, hv, hr⟩ := ht t s h
    have : a.eval (.tmp t) = v := by simp [Act.eval, Array.getD_eq_getD_getElem?, hv]
    rw [this]; exact hr
  | const v => exact ofV_ok h
  | global g => cases h
  | func f => cases h; exact ⟨.func f, [], [], rfl, rfl, rfl, rfl⟩

theorem Rep.cellsL {env : Env} {ρ : Pl} {s : SV} {v : Value} (h : Rep env ρ s v) (hn : s.isAny = false) : RepL env ρ s.cellsL v.cells.toList := by
  cases s with
  | any => cases hn
  | agg l => obtain ⟨vs, hr, rfl⟩ := h; exact hr
  | int k e => rw [show v = _ from h]; exact ⟨_, [], rfl, rfl, rfl⟩
  | bool b => rw [show v = _ from h]; exact ⟨_, [], rfl, rfl, rfl⟩
  | ptr a => obtain ⟨A, hA, rfl⟩ := h; exact ⟨_, [], ⟨A, hA, rfl⟩, rfl, rfl⟩
  | slice a len cap => obtain ⟨A, c, h1, h2, h3, rfl⟩ := h; exact ⟨_, [], ⟨A, c, h1, h2, h3, rfl⟩, rfl, rfl⟩
  | func f x y => obtain ⟨g, fs, cs, h1, h2, h3, rfl⟩ := h; exact ⟨_, [], ⟨g, fs, cs, h1, h2, h3, rfl⟩, rfl, rfl⟩
  | nilFunc => rw [show v = _ from h]; exact ⟨_, [], rfl, rfl, rfl⟩
  | nilIface => rw [show v = _ from h]; exact ⟨_, [], rfl, rfl, rfl⟩
  | iface t x => obtain ⟨u, hu, rfl⟩ := h; exact ⟨_, [], ⟨u, hu, rfl⟩, rfl, rfl⟩
  | str s => rw [show v = _ from h]; exact ⟨_, [], rfl, rfl, rfl⟩
  | nilMap => rw [show v = _ from h]; exact ⟨_, [], rfl, rfl, rfl⟩
  | tuple l => obtain ⟨vs, hr, rfl⟩ := h; exact ⟨_, [], ⟨vs, hr, rfl⟩, rfl, rfl⟩
  | vsl b l =>
    have h' := h
    obtain ⟨r, o, e, h0, ⟨_, A, c, rfl⟩ | ⟨c, _, rfl⟩⟩ := h
    · exact ⟨_, [], h', rfl, rfl⟩
    · exact ⟨_, [], h', rfl, rfl⟩
  | vg b l =>
    have h' := h
    obtain ⟨r, c, e, h0, h1, h2, h3⟩ := h
    by_cases hc : c = 0
    · obtain ⟨A, rfl⟩ := h2 hc; exact ⟨_, [], h', rfl, rfl⟩
    · have := h3 hc; subst this; exact ⟨_, [], h', rfl, rfl⟩

theorem Rep.flat {env : Env} {ρ : Pl} {s : SV} {v : Value} (h : Rep env ρ s v) (hf : s.flat = true) : v.oneCell' = true := by
  cases s with
  | agg l => cases hf
  | tuple l => cases hf
  | any => cases hf
  | int k e => rw [show v = _ from h]; rfl
  | bool b => rw [show v = _ from h]; rfl
  | ptr a => obtain ⟨A, hA, rfl⟩ := h; rfl
  | slice a len cap => obtain ⟨A, c, h1, h2, h3, rfl⟩ := h; rfl
  | func f x y => obtain ⟨g, fs, cs, h1, h2, h3, rfl⟩ := h; rfl
  | nilFunc => rw [show v = _ from h]; rfl
  | nilIface => rw [show v = _ from h]; rfl
  | iface t x => obtain ⟨u, hu, rfl⟩ := h; rfl
  | str s => rw [show v = _ from h]; rfl
  | nilMap => rw [show v = _ from h]; rfl
  | vsl b l => obtain ⟨r, o, e, h0, ⟨_, A, c, rfl⟩ | ⟨c, _, rfl⟩⟩ := h <;> rfl
  | vg b l =>
    obtain ⟨r, c, e, h0, h1, h2, h3⟩ := h
    by_cases hc : c = 0
    · obtain ⟨A, rfl⟩ := h2 hc; rfl
    · have := h3 hc; subst this; rfl

theorem RepL.flat {env : Env} {ρ : Pl} : ∀ {l : List SV} {vs : List Value}, RepL env ρ l vs → l.all SV.flat = true → ∀ v, v ∈ vs → v.oneCell' = true
  | [], vs, h, _, v, hv => by rw [show vs = [] from h] at hv; cases hv
  | s :: l, vs, h, hf, v, hv => by
      obtain ⟨u, us, h1, h2, rfl⟩ := h
      simp only [List.all_cons, Bool.and_eq_true] at hf
      rcases List.mem_cons.1 hv with rfl | hv
      · exact h1.flat hf.1
      · exact h2.flat hf.2 v hv

/-! ### branching -/

section
variable {env : Env} {cx : Ctx} {b : BE} {s : St} {r : Out × St}

theorem tighten_ok {env : Env} : ∀ {be : BE} {cx : Ctx} {v : Bool}, cx.ok env → be.den env = v → (tighten cx be v).ok env
  | .neg b, cx, v, hc, h => by
      simp only [tighten]
      exact tighten_ok hc (by simp [BE.den] at h; simp [← h])
  | .cmp o a b, cx, v, hc, h => by
      simp only [tighten]
      simp only [BE.den] at h
      split
      · rename_i n hn
        have hb := E.litI_eq (env := env) hn
        split
        · rename_i x hx
          cases hq : decide ((refine2 o v x (n, n)).1 = x) with
          | true => exact hc
          | false => exact addB_ok hc (refine2_ok (bnd_ok hc _ _ hx) (q := (n, n)) (y := b.den env) (by simp only; omega) h).1
        · exact hc
      · split
        · rename_i n hn
          have ha := E.litI_eq (env := env) hn
          split
          · rename_i x hx
            cases hq : decide ((refine2 o v (n, n) x).2 = x) with
            | true => exact hc
            | false => exact addB_ok hc (refine2_ok (p := (n, n)) (x := a.den env) (by simp only; omega) (bnd_ok hc _ _ hx) h).2
          · exact hc
        · exact hc
  | .lit _, cx, v, hc, _ => hc
  | .and _ _, cx, v, hc, _ => hc
  | .eqb _ _, cx, v, hc, _ => hc
  | .tst _, cx, v, hc, _ => hc

theorem branch_ok {k : Bool → Ctx → Tree} (h : runE env (branch cx b k) s = some r) (hc : cx.ok env) : ∃ cx', cx'.ok env ∧ runE env (k (b.den env) cx') s = some r := by
  unfold branch at h
  split at h
  · rename_i v hv
    rw [resolveJ_ok hc hv]
    exact ⟨tighten cx b v, tighten_ok hc (resolveJ_ok hc hv), h⟩
  · have hT : b.den env = true → (assumeJ 50 cx (simpB cx b) true).ok env := fun e => assumeJ_ok 50 hc (by rw [simpB_ok hc]; exact e)
    have hF : b.den env = false → (assumeJ 50 cx (simpB cx b) false).ok env := fun e => assumeJ_ok 50 hc (by rw [simpB_ok hc]; exact e)
    dsimp only at h
    cases hd1 : deadC (assumeJ 50 cx (simpB cx b) true) with
    | true =>
      rw [hd1, cond_true] at h
      cases hv : b.den env with
      | true => exact (deadC_ok (hT hv) hd1).elim
      | false => exact ⟨_, hF hv, h⟩
    | false =>
      rw [hd1, cond_false] at h
      cases hd2 : deadC (assumeJ 50 cx (simpB cx b) false) with
      | true =>
        rw [hd2, cond_true] at h
        cases hv : b.den env with
        | false => exact (deadC_ok (hF hv) hd2).elim
        | true => exact ⟨_, hT hv, h⟩
      | false =>
        rw [hd2, cond_false, runE_ite, simpB_ok hc] at h
        cases hv : b.den env with
        | true => rw [hv, if_pos rfl] at h; exact ⟨_, hT hv, h⟩
        | false => rw [hv, if_neg (by simp)] at h; exact ⟨_, hF hv, h⟩

theorem need_ok {y : String} {k : Ctx → Tree} (h : runE env (need cx b y k) s = some r) (hc : cx.ok env) : b.den env = true ∧ ∃ cx', cx'.ok env ∧ runE env (k cx') s = some r := by
  unfold need at h
  split at h
  · rename_i hv; exact ⟨resolveJ_ok hc hv, cx, hc, h⟩
  · exact (runE_fail h).elim
  · obtain ⟨h1, h2⟩ := runE_need h
    exact ⟨h1, _, assumeJ_ok 50 hc h1, h2⟩
end

/-! ### types -/

theorem pinGo_ok {env : Env} {s : St} {r : Out × St} {i : E} {k : Nat → Ctx → Tree} : ∀ {n : Nat} {j : Nat} {cx : Ctx}, runE env (pinGo cx i k j n) s = some r → cx.ok env → (j : Int) ≤ i.den env → i.den env < (j + n : Nat) →
    ∃ cx' m : _, i.den env = (m : Nat) ∧ cx'.ok env ∧ runE env (k m cx') s = some r
  | 0, j, cx, h, hc, h1, h2 => by omega
  | 1, j, cx, h, hc, h1, h2 => by
      have e : i.den env = (j : Nat) := by omega
      exact ⟨_, j, e, assumeJ_ok 50 hc (by rw [mkCmp_ok hc]; simp [cmpI, E.den, e]), h⟩
  | n + 2, j, cx, h, hc, h1, h2 => by
      replace h : runE env (branch cx (mkCmp cx .eql i (.lit j)) fun v cx => if v then k j cx else pinGo cx i k (j + 1) (n + 1)) s = some r := h
      obtain ⟨cx', hc', h⟩ := branch_ok h hc
      rw [mkCmp_ok hc] at h
      simp only [cmpI, E.den] at h
      by_cases e : i.den env = (j : Nat)
      · have e' : (i.den env == ((j : Nat) : Int)) = true := by simp [e]
        simp only [e', if_true] at h
        exact ⟨cx', j, e, hc', h⟩
      · have e' : (i.den env == ((j : Nat) : Int)) = false := by simp [e]
        simp only [e', Bool.false_eq_true, if_false] at h
        exact pinGo_ok h hc' (by omega) (by omega)
theorem pinT_ok {env : Env} {s : St} {r : Out × St} {i : E} {k : Nat → Ctx → Tree} {n : Nat} {cx : Ctx} (h : runE env (pinT cx i n k) s = some r) (hc : cx.ok env) (h1 : 0 ≤ i.den env) (h2 : i.den env < (n : Int)) :
    ∃ cx' m : _, i.den env = (m : Nat) ∧ m < n ∧ cx'.ok env ∧ runE env (k m cx') s = some r := by
  unfold pinT at h
  split at h
  · rename_i a
    simp only [E.den] at h1 h2 ⊢
    exact ⟨cx, a.toNat, by omega, by omega, hc, h⟩
  · cases hn : Nat.ble n 64 with
    | false => rw [hn] at h; exact (runE_fail h).elim
    | true =>
      rw [hn, cond_true] at h
      obtain ⟨cx', m, e, hc', h⟩ := pinGo_ok h hc (by simpa using h1) (by simpa using h2)
      exact ⟨cx', m, e, by omega, hc', h⟩

theorem szOf_ok {P : Program} {t : TypeId} {n : Nat} (h : szOf P t = some n) : ∃ i, P.info? t = some i ∧ i.size = n := by
  unfold szOf at h
  rw [Option.map_eq_some_iff] at h
  exact h

theorem run_sizeOf' {P : Program} {t : TypeId} {n : Nat} (h : szOf P t = some n) (w : World) : (sizeOf t).run P w = .ok n w := by
  obtain ⟨i, hi, rfl⟩ := szOf_ok h
  simp [sizeOf, typeInfo, hi]

theorem run_isAgg' {P : Program} {t : TypeId} {b : Bool} (h : aggT P t = some b) (w : World) : (isAgg t).run P w = .ok b w := by
  unfold aggT at h
  split at h
  · rename_i h1; cases h; simp [isAgg, run_underlying h1]
  · rename_i h1; cases h; simp [isAgg, run_underlying h1]
  · rename_i d h1 h2 h3
    cases h
    simp only [isAgg, Sem.run_bind, run_underlying h3, Result.andThen_ok]
    first
      | rfl
      | (split
         · rename_i fs; exact absurd rfl (h1 fs)
         · rename_i n e; exact absurd rfl (h2 n e)
         · rfl)
  · cases h

theorem zeroL_ok {P : Program} {t : TypeId} {l : List SV} (h : zeroL P t = some l) : ∃ i v, P.info? t = some i ∧ i.zero = some v ∧ ofL v.cells.toList = some l := by
  unfold zeroL at h
  split at h
  · rename_i i hi
    split at h
    · rename_i v hv; exact ⟨i, v, hi, hv, h⟩
    · cases h
  · cases h

/-! ### loads -/

theorem Addr.add' (r o n : Nat) : (⟨r, o, none⟩ : Addr).add n = ⟨r, o + n, none⟩ := by
  unfold Addr.add; split <;> simp_all

theorem cut_ok {l : List SV} {off n : Nat} {r : List SV} (h : cut l off n = some r) : r = (l.drop off).take n ∧ r.length = n := by
  unfold cut at h
  simp only [beq_dec] at h
  by_cases hd : ((l.drop off).take n).length = n
  · simp only [hd, decide_true, cond_true] at h
    cases h
    exact ⟨rfl, hd⟩
  · simp only [hd, decide_false, cond_false] at h
    cases h

theorem arrCells_ok {sig : List (Option IntKind)} {F : Nat} {ix : List E} : ∀ {n off : Nat} {r : List SV}, arrCells sig F ix off n = some r →
    r.length = n ∧ ∀ j, j < n → ∃ k, sig[off + j]? = some k ∧ r[j]? = some (cellS k (.app (F + (off + j)) ix))
  | 0, off, r, h => by cases h; exact ⟨rfl, fun j hj => by omega⟩
  | n + 1, off, r, h => by
      simp only [arrCells] at h
      split at h
      · rename_i k r' h1 h2
        cases h
        obtain ⟨hl, ha⟩ := arrCells_ok h2
        refine ⟨by simp [hl], ?_⟩
        intro j hj
        cases j with
        | zero => exact ⟨k, by simpa using h1, by simp⟩
        | succ j =>
          obtain ⟨k', e1, e2⟩ := ha j (by omega)
          exact ⟨k', by rw [← e1]; congr 1; omega, by simp only [List.getElem?_cons_succ]; rw [e2, show off + 1 + j = off + (j + 1) by omega]⟩
      · cases h

/-- the cells that a run of 'loadN' hands on lie at the address -/
def CellsAt (w : World) (A : Addr) (cs : List Value) : Prop := ∀ (j : Nat) (v : Value), cs[j]? = some v → w.cell? (A.add j) = some v

theorem arr_rep {env : Env} {ρ : Pl} {sig : List (Option IntKind)} {F : Nat} {ix : List E} : ∀ (n o : Nat) (r : List SV), r.length = n →
    (∀ j, j < n → ∃ k, sig[o + j]? = some k ∧ r[j]? = some (cellS k (.app (F + (o + j)) ix))) →
    ∃ cs, RepL env ρ r cs ∧ ∀ (j : Nat) (v : Value), cs[j]? = some v → ∃ k, sig[o + j]? = some k ∧ v = cellW k (env.f (F + (o + j)) (denL env ix))
  | 0, o, r, hl, h => by
      have : r = [] := by simpa using hl
      subst this
      exact ⟨[], rfl, fun j v hv => by simp at hv⟩
  | n + 1, o, r, hl, h => by
      cases r with
      | nil => simp at hl
      | cons x r =>
        obtain ⟨k, h1, h2⟩ := h 0 (by omega)
        simp at h2
        subst h2
        obtain ⟨cs, e1, e2⟩ := arr_rep n (o + 1) r (by simpa using hl) (fun j hj => by
          obtain ⟨k', g1, g2⟩ := h (j + 1) (by omega)
          refine ⟨k', by rw [← g1]; congr 1; omega, ?_⟩
          simp only [List.getElem?_cons_succ] at g2
          rw [g2, show o + (j + 1) = o + 1 + j by omega])
        refine ⟨cellW k (env.f (F + o) (denL env ix)) :: cs, ⟨_, cs, cellS_rep k _, e1, rfl⟩, ?_⟩
        intro j v hv
        cases j with
        | zero => simp at hv; exact ⟨k, by simpa using h1, by rw [← hv]; rfl⟩
        | succ j =>
          simp only [List.getElem?_cons_succ] at hv
          obtain ⟨k', g1, g2⟩ := e2 j v hv
          exact ⟨k', by rw [← g1]; congr 1; omega, by rw [g2, show o + 1 + j = o + (j + 1) by omega]⟩

theorem RepA.name {env : Env} {ρ : Pl} {a : SA} {A : Addr} (h : RepA env ρ a A) : ∃ p, ρ a.name = some p := by
  cases a with
  | c b off => obtain ⟨r, o, e, _⟩ := h; exact ⟨_, e⟩
  | s b ix m off => obtain ⟨r, o, e, _⟩ := h; exact ⟨_, e⟩
  | g b off => obtain ⟨r, o, e, _⟩ := h; exact ⟨_, e⟩
  | h b ix m off => obtain ⟨r, o, e, _⟩ := h; exact ⟨_, e⟩
theorem arrRng_ok {env : Env} {sig : List (Option IntKind)} {F : Nat} {ix : List E} : ∀ {n off : Nat}, (∀ j kd, off ≤ j → j < off + n → sig[j]? = some (some kd) → kd.min ≤ env.f (F + j) (denL env ix) ∧ env.f (F + j) (denL env ix) ≤ kd.max) →
    ∀ e lo hi, (e, lo, hi) ∈ arrRng sig F ix off n → lo ≤ e.den env ∧ e.den env ≤ hi
  | 0, off, h, e, lo, hi, hm => by simp [arrRng] at hm
  | n + 1, off, h, e, lo, hi, hm => by
      simp only [arrRng] at hm
      have ih := arrRng_ok (env := env) (sig := sig) (F := F) (ix := ix) (n := n) (off := off + 1) (fun j kd h1 h2 h3 => h j kd (by omega) (by omega) h3) e lo hi
      split at hm
      · rename_i k hk
        simp only [List.mem_cons] at hm
        rcases hm with hm | hm
        · cases hm
          exact h off k (Nat.le_refl _) (by omega) hk
        · exact ih hm
      · exact ih hm

theorem arrM_ok {env : Env} {ρ : Pl} {sig : List (Option IntKind)} {F : Nat} {as : List E} : ∀ {n off : Nat} {r : List SV}, arrCellsM sig F as off n = some r →
    r.length = n ∧ ∃ cs, RepL env ρ r cs ∧ ∀ (j : Nat) (v : Value), cs[j]? = some v → j < n ∧ ∃ k, sig[(off + j) % sig.length]? = some k ∧ v = cellW k (env.f (F + (off + j) % sig.length) (denL env as ++ [(((off + j) / sig.length : Nat) : Int)]))
  | 0, off, r, h => by cases h; exact ⟨rfl, [], rfl, fun j v hv => by simp at hv⟩
  | n + 1, off, r, h => by
      simp only [arrCellsM] at h
      split at h
      · rename_i k r' h1 h2
        cases h
        obtain ⟨hl, cs, hr, hv⟩ := arrM_ok (env := env) (ρ := ρ) h2
        refine ⟨by simp [hl], cellW k (env.f (F + off % sig.length) (denL env (as ++ [.lit (off / sig.length : Nat)]))) :: cs, ⟨_, cs, cellS_rep k _, hr, rfl⟩, ?_⟩
        intro j v hj
        cases j with
        | zero =>
          simp only [List.getElem?_cons_zero, Option.some.injEq] at hj
          refine ⟨by omega, k, by simpa using h1, ?_⟩
          rw [← hj, denL_append]
          rfl
        | succ j =>
          simp only [List.getElem?_cons_succ] at hj
          obtain ⟨g0, k', g1, g2⟩ := hv j v hj
          refine ⟨by omega, k', by rw [← g1]; congr 2; omega, ?_⟩
          rw [g2, show off + 1 + j = off + (j + 1) by omega]
      · cases h
theorem arrRngM_ok {env : Env} {sig : List (Option IntKind)} {F : Nat} {as : List E} : ∀ {n off : Nat}, (∀ j kd, j < n → sig[(off + j) % sig.length]? = some (some kd) → kd.min ≤ env.f (F + (off + j) % sig.length) (denL env (as ++ [.lit ((off + j) / sig.length : Nat)])) ∧ env.f (F + (off + j) % sig.length) (denL env (as ++ [.lit ((off + j) / sig.length : Nat)])) ≤ kd.max) →
    ∀ e lo hi, (e, lo, hi) ∈ arrRngM sig F as off n → lo ≤ e.den env ∧ e.den env ≤ hi
  | 0, off, h, e, lo, hi, hm => by simp [arrRngM] at hm
  | n + 1, off, h, e, lo, hi, hm => by
      simp only [arrRngM] at hm
      have ih := arrRngM_ok (env := env) (sig := sig) (F := F) (as := as) (n := n) (off := off + 1) (fun j kd h1 h3 => by
        have := h (j + 1) kd (by omega) (by rw [← h3]; congr 2; omega)
        rwa [show off + (j + 1) = off + 1 + j by omega] at this) e lo hi
      split at hm
      · rename_i k hk
        simp only [List.mem_cons] at hm
        rcases hm with hm | hm
        · cases hm
          exact h 0 k (by omega) hk
        · exact ih hm
      · exact ih hm

theorem loadN_ok {env : Env} {ρ : Pl} {B : Nat} {cx : Ctx} {a : SA} {n : Nat} {k : List SV → Ctx → Tree} {s : St} {r : Out × St} {w : World} {A : Addr}
    (h0 : runE env (loadN cx a n k) s = some r) (hc : cx.ok env) (hs : HS env ρ B s.h w) (hA : RepA env ρ a A) :
    ∃ l cs cx' s', runE env (k l cx') s' = some r ∧ cx'.ok env ∧ s'.h = s.h ∧ RepL env ρ l cs ∧ l.length = n ∧ CellsAt w A cs := by
  unfold loadN at h0
  obtain ⟨blk, hg, hlt0, h⟩ := runE_get h0
  clear h0
  have hh : (s.touch a.name).h = s.h := St.touch_h s _
  obtain ⟨⟨rr, oo⟩, e⟩ := hA.name
  split at h
  · -- cells
    rename_i l t b off
    split at h
    · rename_i x hx
      obtain ⟨rfl, hl⟩ := cut_ok hx
      obtain ⟨r', o', e', rfl⟩ := hA
      simp only [SA.name] at e
      rw [e] at e'
      cases e'
      obtain ⟨⟨rfl, cs, hr, hob⟩, _⟩ := hs.at' hg e rfl
      refine ⟨_, _, cx, _, h, hc, hh, (hr.drop off).take n, hl, ?_⟩
      intro j v hv
      rw [Addr.add', World.cell?, hob]
      simp only [Option.isSome_none, Bool.false_eq_true, if_false, List.getElem?_toArray]
      rw [List.getElem?_take] at hv
      split at hv
      · rw [List.getElem?_drop] at hv
        rw [← hv]; congr 1; omega
      · cases hv
    · exact (runE_fail h).elim
  · -- ro
    rename_i l b off
    split at h
    · rename_i x hx
      obtain ⟨rfl, hl⟩ := cut_ok hx
      obtain ⟨r', o', e', rfl⟩ := hA
      simp only [SA.name] at e
      rw [e] at e'
      cases e'
      obtain ⟨⟨c, t, fz, cs, hob, hr, hcs⟩, _⟩ := hs.at' hg e rfl
      refine ⟨_, _, cx, _, h, hc, hh, (hr.drop off).take n, hl, ?_⟩
      intro j v hv
      rw [Addr.add', World.cell?, hob]
      simp only [Option.isSome_none, Bool.false_eq_true, if_false]
      rw [List.getElem?_take] at hv
      split at hv
      · rw [List.getElem?_drop] at hv
        have := hcs _ _ hv
        rw [← this]; congr 1; omega
      · cases hv
    · exact (runE_fail h).elim
  · -- a row that grows
    rename_i l t m b off
    split at h
    · rename_i x hx
      obtain ⟨rfl, hl⟩ := cut_ok hx
      obtain ⟨r', o', e', rfl⟩ := hA
      simp only [SA.name] at e
      rw [e] at e'
      cases e'
      obtain ⟨⟨cs, cur, hr, hob, hpre, _⟩, _⟩ := hs.at' hg e rfl
      refine ⟨_, _, cx, _, h, hc, hh, (hr.drop off).take n, hl, ?_⟩
      intro j v hv
      rw [Addr.add', World.cell?, hob]
      simp only [Option.isSome_none, Bool.false_eq_true, if_false]
      rw [List.getElem?_take] at hv
      split at hv
      · rw [List.getElem?_drop] at hv
        rw [← hpre, List.getElem?_take] at hv
        split at hv
        · rw [← Array.getElem?_toList, ← hv]
        · cases hv
      · cases hv
    · exact (runE_fail h).elim
  · -- a row of an array, by an expression
    rename_i sig F as N b ix m off
    simp only [beq_dec] at h
    by_cases hm : m = sig.length
    · simp only [hm, decide_true, cond_true] at h
      split at h
      · rename_i x hx
        obtain ⟨hl, ha⟩ := arrCells_ok hx
        obtain ⟨hlt, cx', hc', h⟩ := need_ok h hc
        rw [mkCmp_ok hc] at hlt
        simp [cmpI] at hlt
        obtain ⟨r', o', e', hn0, rfl⟩ := hA
        simp only [SA.name] at e
        rw [e] at e'
        cases e'
        obtain ⟨⟨c, t, fz, hob, hN, hcs⟩, _⟩ := hs.at' hg e (by simp only [Blk.void, beq_eq_false_iff_ne, ne_eq]; intro hz; rw [hz] at hlt; omega)
        obtain ⟨cs, hr, hv⟩ := arr_rep (env := env) (ρ := ρ) n off x hl ha
        have hi : ((ix.den env).toNat : Int) = ix.den env := by omega
        have hrng : (addRs cx' (arrRng sig F (as ++ [ix]) off n)).ok env := addRs_ok hc' (arrRng_ok fun j kd h1 h2 h3 => by
          have := (hcs (ix.den env).toNat j (some kd) (by omega) h3).2 kd rfl
          rw [hi] at this
          rw [denL_append]
          exact this)
        refine ⟨_, cs, _, _, h, hrng, hh, hr, hl, ?_⟩
        intro j v hj
        obtain ⟨k', g1, g2⟩ := hv j v hj
        have := (hcs (ix.den env).toNat (off + j) k' (by omega) g1).1
        rw [Addr.add', World.cell?, hob]
        simp only [Option.isSome_none, Bool.false_eq_true, if_false]
        rw [hi] at this
        rw [denL_append] at g2
        rw [g2]
        simp only [denL]
        rw [← this, hm]
        congr 1
        omega
      · exact (runE_fail h).elim
    · simp only [hm, decide_false, cond_false] at h
      exact (runE_fail h).elim
  · -- a row of an array, by a number
    rename_i sig F as N b off
    split at h
    · rename_i x hx
      simp only [beq_dec] at h
      by_cases hz : sig.length = 0
      · simp only [hz, decide_true, cond_true] at h
        exact (runE_fail h).elim
      · simp only [hz, decide_false, cond_false] at h
        obtain ⟨hlt, cx', hc', h⟩ := need_ok h hc
        rw [mkCmp_ok hc] at hlt
        simp only [cmpI, decide_eq_true_eq, E.den] at hlt
        have hlt' := of_decide_eq_true hlt
        obtain ⟨r', o', e', rfl⟩ := hA
        simp only [SA.name] at e
        rw [e] at e'
        cases e'
        obtain ⟨⟨c, t, fz, hob, hN, hcs⟩, _⟩ := hs.at' hg e (by simp only [Blk.void, beq_eq_false_iff_ne, ne_eq]; intro hz; rw [hz] at hlt'; exact absurd hlt' (Int.not_lt.2 (Int.natCast_nonneg _)))
        obtain ⟨hl, cs, hr, hv⟩ := arrM_ok (env := env) (ρ := ρ) hx
        have hle : ∀ j, j < n → (((off + j) / sig.length : Nat) : Int) < N.den env := fun j hj => by
          have : (off + j) / sig.length ≤ (off + (n - 1)) / sig.length := Nat.div_le_div_right (by omega)
          omega
        have hrng : (addRs cx' (arrRngM sig F as off n)).ok env := addRs_ok hc' (arrRngM_ok fun j kd h1 h3 => by
          have := (hcs ((off + j) / sig.length) ((off + j) % sig.length) (some kd) (hle j h1) h3).2 kd rfl
          rw [denL_append]
          exact this)
        refine ⟨_, cs, _, _, h, hrng, hh, hr, hl, ?_⟩
        intro j v hj
        obtain ⟨g0, k', g1, g2⟩ := hv j v hj
        have := (hcs ((off + j) / sig.length) ((off + j) % sig.length) k' (hle j g0) g1).1
        rw [Addr.add', World.cell?, hob]
        simp only [Option.isSome_none, Bool.false_eq_true, if_false]
        rw [g2]
        rw [← this]
        congr 1
        have := Nat.div_add_mod (off + j) sig.length
        omega
    · exact (runE_fail h).elim
  · -- a row that is written
    rename_i sig code N ty b ix m off
    simp only [beq_dec, blt_dec, ble_dec] at h
    by_cases hm : m = sig.length ∧ m < 32 ∧ off + n ≤ 100
    · have hmb : (decide (m = sig.length) && decide (m < 32) && decide (off + n ≤ 100)) = true := by
        simp only [Bool.and_eq_true, decide_eq_true_eq]
        exact ⟨⟨hm.1, hm.2.1⟩, hm.2.2⟩
      rw [hmb, cond_true] at h
      split at h
      · rename_i x hx
        obtain ⟨hl, ha⟩ := arrCells_ok hx
        obtain ⟨hlt, cx', hc', h⟩ := need_ok h hc
        rw [mkCmp_ok hc] at hlt
        simp [cmpI] at hlt
        obtain ⟨r', o', e', hn0, rfl⟩ := hA
        simp only [SA.name] at e
        rw [e] at e'
        cases e'
        obtain ⟨hw0, hw1, hw2, hw3⟩ : VecOK env sig code N := hs.wf _ _ hg
        have hrow : ∀ j, j < 100 → env.f (1100 + 100 * m + j) [code.den env, ix.den env] = rowGet m j (code.den env) (ix.den env) := fun j hj => by
          rw [hs.rows _ _ (by omega) (by omega), rowOp_get hm.2.1 hj]
        obtain ⟨⟨cur, hob, _, hNo, hcs⟩, _⟩ := hs.at' hg e (by
          simp only [Blk.void, Bool.and_eq_false_imp, beq_iff_eq, beq_eq_false_iff_ne, ne_eq]
          omega)
        obtain ⟨cs, hr, hv⟩ := arr_rep (env := env) (ρ := ρ) n off x hl ha
        have hi : ((ix.den env).toNat : Int) = ix.den env := by omega
        have hrng : (addRs cx' (arrRng sig (1100 + 100 * m) [code, ix] off n)).ok env := addRs_ok hc' (arrRng_ok fun j kd h1 h2 h3 => by
          have := hw3 (ix.den env).toNat j kd (by omega) h3
          rw [hi, ← hm.1] at this
          simp only [denL]
          rw [hrow j (by omega)]
          exact this)
        refine ⟨_, cs, _, _, h, hrng, hh, hr, hl, ?_⟩
        intro j v hj
        obtain ⟨k', g1, g2⟩ := hv j v hj
        have hjn : j < n := by
          have := (List.getElem?_eq_some_iff.1 hj).1
          have e3 := hr.length
          omega
        have := hcs (ix.den env).toNat (off + j) k' (by omega) g1
        rw [Addr.add', World.cell?, hob]
        simp only [Option.isSome_none, Bool.false_eq_true, if_false]
        simp only [denL] at g2
        rw [hrow (off + j) (by omega)] at g2
        rw [hi, ← hm.1] at this
        rw [g2, ← this]
        congr 1
        omega
      · exact (runE_fail h).elim
    · have hm' : (decide (m = sig.length) && decide (m < 32) && decide (off + n ≤ 100)) = false := by
        simp only [Bool.and_eq_false_imp, Bool.and_eq_true, decide_eq_true_eq, decide_eq_false_iff_not, and_imp]
        exact fun h1 h2 h3 => hm ⟨h1, h2, h3⟩
      rw [hm', cond_false] at h
      exact (runE_fail h).elim
  · -- a great block
    rename_i z m N t b off
    cases hroom : Nat.ble (off + n) N with
    | false => rw [hroom, cond_false] at h; exact (runE_fail h).elim
    | true =>
      rw [hroom, cond_true] at h
      have hroom' : off + n ≤ N := Nat.le_of_ble_eq_true hroom
      obtain ⟨r', o', e', rfl⟩ := hA
      simp only [SA.name] at e
      rw [e] at e'
      cases e'
      obtain ⟨⟨rfl, cs, hr, hob⟩, _⟩ := hs.at' hg e rfl
      rw [bigL_cut hroom'] at h
      refine ⟨_, _, cx, _, h, hc, hh, (hr.drop off).take n, by simp [bigL_length]; omega, ?_⟩
      intro j v hv
      rw [Addr.add', World.cell?, hob]
      simp only [Option.isSome_none, Bool.false_eq_true, if_false, List.getElem?_toArray]
      rw [List.getElem?_take] at hv
      split at hv
      · rw [List.getElem?_drop] at hv
        rw [← hv]; congr 1; omega
      · cases hv
  · exact (runE_fail h).elim

theorem loadT_ok {env : Env} {ρ : Pl} {B : Nat} {P : Program} {cx : Ctx} {t : TypeId} {a : SA} {k : SV → Ctx → Tree} {s : St} {r : Out × St} {w : World} {A : Addr}
    (h : runE env (loadT P cx t a k) s = some r) (hc : cx.ok env) (hs : HS env ρ B s.h w) (hA : RepA env ρ a A) :
    ∃ v V cx' s', runE env (k v cx') s' = some r ∧ cx'.ok env ∧ s'.h = s.h ∧ Rep env ρ v V ∧ (loadVar t A).run P w = .ok V w := by
  unfold loadT at h
  split at h
  · rename_i hagg
    split at h
    · rename_i n hn
      obtain ⟨l, cs, cx', s', h, hc', hh, hr, hl, hcs⟩ := loadN_ok h hc hs hA
      refine ⟨_, .agg cs.toArray, cx', s', h, hc', hh, ⟨cs, hr, rfl⟩, ?_⟩
      have hlen : cs.length = n := by rw [hr.length, hl]
      simp only [loadVar, Sem.run_bind, run_isAgg' hagg, Result.andThen_ok, if_true, Sem.run_ite, run_sizeOf' hn]
      rw [← hlen, run_loadCells_list w A cs hcs]
      rfl
    · exact (runE_fail h).elim
  · rename_i hagg
    obtain ⟨l, cs, cx', s', h, hc', hh, hr, hl, hcs⟩ := loadN_ok h hc hs hA
    split at h
    · rename_i v
      obtain ⟨V, vs, hv, hvs, rfl⟩ := hr
      refine ⟨v, V, cx', s', h, hc', hh, hv, ?_⟩
      have := hcs 0 V (by simp)
      have hA0 : A.add 0 = A := by simp [Addr.add]
      rw [hA0] at this
      simp only [loadVar, Sem.run_bind, run_isAgg' hagg, Result.andThen_ok, Bool.false_eq_true, if_false, Sem.run_ite, run_load, this]
    · exact (runE_fail h).elim
  · exact (runE_fail h).elim

/-! ### stores -/

theorem setMany_eq {α : Type} : ∀ (vs : List α) (l : List α) (off : Nat), off + vs.length ≤ l.length → setMany l off vs = l.take off ++ vs ++ l.drop (off + vs.length)
  | [], l, off, h => by simp [setMany]
  | v :: vs, l, off, h => by
      simp only [List.length_cons] at h
      simp only [setMany]
      rw [setMany_eq vs (l.set off v) (off + 1) (by simp; omega)]
      have h1 : (l.set off v).take (off + 1) = l.take off ++ [v] := by
        apply List.ext_getElem?
        intro i
        rw [List.getElem?_take]
        by_cases hi : i < off
        · rw [if_pos (by omega), List.getElem?_set_ne (by omega), List.getElem?_append_left (by simp; omega), List.getElem?_take, if_pos hi]
        · by_cases hi2 : i = off
          · subst hi2
            rw [if_pos (by omega), List.getElem?_set_self (by omega), List.getElem?_append_right (by simp; omega)]
            simp [show i ≤ l.length by omega]
          · rw [if_neg (by omega), List.getElem?_eq_none (by simp; omega)]
      have h2 : (l.set off v).drop (off + 1 + vs.length) = l.drop (off + (vs.length + 1)) := by
        apply List.ext_getElem?
        intro i
        rw [List.getElem?_drop, List.getElem?_drop, List.getElem?_set_ne (by omega)]
        congr 1
        omega
      rw [h1, h2]
      simp

/-! ### cells of rows that are written -/

theorem cellE_ok {env : Env} {ρ : Pl} {k : Option IntKind} {v : SV} {e : E} {V : Value} (h : cellE k v = some e) (hv : Rep env ρ v V) : V = cellW k (e.den env) := by
  unfold cellE at h
  split at h
  · rename_i k k' e'
    by_cases hk : k = k'
    · subst hk
      rw [if_pos rfl] at h
      cases h
      exact hv
    · rw [if_neg hk] at h
      cases h
  · rename_i b
    cases h
    rw [show V = .bool (b.den env) from hv]
    simp only [cellW, toE_ok]
    cases b.den env <;> rfl
  · cases h
theorem cellsE_ok {env : Env} {ρ : Pl} {sig : List (Option IntKind)} : ∀ {l : List SV} {off : Nat} {es : List E} {us : List Value}, cellsE sig off l = some es → RepL env ρ l us →
    es.length = l.length ∧ us.length = l.length ∧ ∀ j, j < l.length → ∃ k, sig[off + j]? = some k ∧ us[j]? = some (cellW k ((denL env es).getD j 0))
  | [], off, es, us, h, hr => by
      cases h
      rw [show us = [] from hr]
      exact ⟨rfl, rfl, fun j hj => by simp at hj⟩
  | v :: l, off, es, us, h, hr => by
      obtain ⟨V, us', hV, hus, rfl⟩ := hr
      simp only [cellsE] at h
      split at h
      · rename_i k r h1 h2
        split at h
        · rename_i e he
          cases h
          obtain ⟨q1, q2, q3⟩ := cellsE_ok h2 hus
          refine ⟨by simp [q1], by simp [q2], fun j hj => ?_⟩
          cases j with
          | zero => exact ⟨k, by simpa using h1, by simp [denL, cellE_ok he hV]⟩
          | succ j =>
            obtain ⟨k', p1, p2⟩ := q3 j (by simpa using hj)
            exact ⟨k', by rw [← p1]; congr 1; omega, by simpa [denL] using p2⟩
        · cases h
      · cases h
theorem cellNeeds_ok {env : Env} {cx : Ctx} (hc : cx.ok env) {sig : List (Option IntKind)} : ∀ {es : List E} {off : Nat}, (cellNeeds cx sig off es).den env = true →
    ∀ j kd, j < es.length → sig[off + j]? = some (some kd) → kd.min ≤ (denL env es).getD j 0 ∧ (denL env es).getD j 0 ≤ kd.max
  | [], off, h, j, kd, hj, hs => by simp at hj
  | e :: l, off, h, j, kd, hj, hs => by
      have hrest : (cellNeeds cx sig (off + 1) l).den env = true := by
        simp only [cellNeeds] at h
        split at h
        · rw [mkAnd_ok, Bool.and_eq_true] at h; exact h.2
        · exact h
      cases j with
      | zero =>
        simp only [cellNeeds] at h
        rw [show sig[off]? = some (some kd) by simpa using hs] at h
        simp only [mkAnd_ok, Bool.and_eq_true, cellNeed, mkCmp_ok hc, cmpI, decide_eq_true_eq, E.den] at h
        simp only [denL, List.getD_cons_zero]
        exact ⟨of_decide_eq_true h.1.1, of_decide_eq_true h.1.2⟩
      | succ j =>
        have := cellNeeds_ok hc hrest j kd (by simpa using hj) (by rw [← hs]; congr 1; omega)
        simpa [denL] using this
theorem length_denL' (env : Env) : ∀ (l : List E), (denL env l).length = l.length
  | [] => rfl
  | e :: l => by simp [denL, length_denL' env l]
theorem setE_ok {env : Env} (hr : RowFn env.f) : ∀ {es : List E} {code pos : E}, 0 ≤ pos.den env → dec ((setE code pos es).den env) = setMany (dec (code.den env)) (pos.den env).toNat (denL env es)
  | [], code, pos, h => rfl
  | e :: l, code, pos, h => by
      have hp : (mkO2 .add pos (.lit 1)).den env = pos.den env + 1 := by rw [mkO2_ok]; rfl
      simp only [setE, denL, setMany]
      rw [setE_ok hr (by rw [hp]; omega), hp, Int.toNat_add h (by omega)]
      have : (E.app 1002 [code, pos, e]).den env = enc ((dec (code.den env)).set (pos.den env).toNat (e.den env)) := by
        simp only [E.den, denL]
        rw [hr _ _ (by omega) (by omega), rowOp_set]
      rw [this, dec_enc]
      rfl
theorem setMany_length {α : Type} : ∀ (vs : List α) (l : List α) (off : Nat), (setMany l off vs).length = l.length
  | [], l, off => rfl
  | v :: vs, l, off => by simp only [setMany]; rw [setMany_length vs]; simp
theorem setMany_get {α : Type} {vs l : List α} {off : Nat} (h : off + vs.length ≤ l.length) (q : Nat) (d : α) : (setMany l off vs).getD q d = if off ≤ q ∧ q < off + vs.length then vs.getD (q - off) d else l.getD q d := by
  rw [setMany_eq vs l off h]
  simp only [List.getD_eq_getElem?_getD]
  by_cases h1 : q < off
  · rw [if_neg (by omega), List.append_assoc, List.getElem?_append_left (by simp; omega), List.getElem?_take, if_pos h1]
  · by_cases h2 : q < off + vs.length
    · rw [if_pos (by omega), List.getElem?_append_left (by simp; omega), List.getElem?_append_right (by simp; omega)]
      simp [show min off l.length = off by omega]
    · rw [if_neg (by omega), List.getElem?_append_right (by simp; omega), List.getElem?_drop]
      congr 2
      simp
      omega
/-- the place of a cell in a row tells its element -/
theorem cell_place {m i i' off n j : Nat} (hn : off + n ≤ m) (hj : j < m) (h1 : m * i + off ≤ m * i' + j) (h2 : m * i' + j < m * i + off + n) : i' = i ∧ off ≤ j ∧ j < off + n := by
  rcases Nat.lt_trichotomy i' i with h | h | h
  · have := Nat.mul_le_mul_left m (show i' + 1 ≤ i by omega)
    rw [Nat.mul_add, Nat.mul_one] at this
    omega
  · subst h; omega
  · have := Nat.mul_le_mul_left m (show i + 1 ≤ i' by omega)
    rw [Nat.mul_add, Nat.mul_one] at this
    omega

theorem RepL.setMany {env : Env} {ρ : Pl} {l vs : List SV} {cs us : List Value} {off : Nat} (h : RepL env ρ l cs) (hv : RepL env ρ vs us) (hl : off + vs.length ≤ l.length) :
    RepL env ρ (Go.SX.setMany l off vs) (cs.take off ++ us ++ cs.drop (off + us.length)) := by
  rw [setMany_eq vs l off hl, hv.length]
  exact ((h.take off).append hv).append (h.drop _)

theorem take_row {α : Type} (A D us : List α) (off : Nat) (h : off + us.length ≤ A.length) :
    (A ++ D).take off ++ us ++ (A ++ D).drop (off + us.length) = (A.take off ++ us ++ A.drop (off + us.length)) ++ D := by
  rw [List.take_append_of_le_length (by omega), List.drop_append_of_le_length h]
  simp

theorem storeT_ok {env : Env} {ρ : Pl} {B : Nat} {P : Program} {cx : Ctx} {t : TypeId} {a : SA} {v : SV} {k : Ctx → Tree} {s : St} {r : Out × St} {w : World} {A : Addr} {V : Value}
    (h : runE env (storeT P cx t a v k) s = some r) (hc : cx.ok env) (hs : HS env ρ B s.h w) (hA : RepA env ρ a A) (hV : Rep env ρ v V) :
    ∃ cx' s' w', runE env (k cx') s' = some r ∧ cx'.ok env ∧ HS env ρ B s'.h w' ∧ Below B w w' ∧ (storeVar t A V).run P w = .ok () w' := by
  unfold storeT at h
  split at h
  · rename_i n b off hn
    simp only [beq_dec] at h
    by_cases hsz : v.cellsL.length = n
    · cases hfl : v.cellsL.all SV.flat with
      | false => simp only [hsz, hfl, decide_true, Bool.and_false, cond_false] at h; exact (runE_fail h).elim
      | true =>
        simp only [hsz, hfl, decide_true, Bool.and_true, cond_true] at h
        obtain ⟨blk, hg, hlt0, h⟩ := runE_get h
        split at h
        · rename_i l e
          cases hroom : Nat.ble (off + n) l.length with
          | false => simp only [hroom, cond_false] at h; exact (runE_fail h).elim
          | true =>
            simp only [hroom, cond_true] at h
            have hroom' : off + n ≤ l.length := Nat.le_of_ble_eq_true hroom
            obtain ⟨u, hu, hlt1, h⟩ := runE_set h
            obtain ⟨r', o', e', rfl⟩ := hA
            obtain ⟨hbs, hown, hown1⟩ := hs.at' hg e' rfl
            obtain ⟨rfl, cs, hr, hob⟩ := hbs
            have hcl := hV.cellsL (SV.isAny_of hfl)
            have hlen : V.cells.toList.length = n := by rw [hcl.length, hsz]
            have hcs : cs.length = l.length := hr.length
            have hst := run_storeCells_at P r' off e V.cells.toList 0 cs.toArray w hob (by simp at hlen ⊢; omega) (hcl.flat hfl)
            obtain ⟨W, hW, hst⟩ : ∃ W, W = w.setRow r' (cs.take off ++ V.cells.toList ++ cs.drop (off + V.cells.toList.length)).toArray ∧
                (storeCells ⟨r', off, none⟩ V.cells.toList 0).run P w = .ok () W := ⟨_, rfl, by simpa using hst⟩
            refine ⟨_, _, W, h, hc, ?_, ?_, ?_⟩
            all_goals subst hW
            · rw [St.put_h]
              have hth : (s.touch b).h = s.h := St.touch_h s b
              rw [hth]
              refine hs.put hg rfl rfl e' (by simp [World.setRow]) (fun k hk => setRow_other w r' k _ hk) ?_
              rw [setRow_heap w r' _ _ e (0, 0) hob]
              refine ⟨rfl, _, hr.setMany hcl (by rw [hsz]; exact hroom'), ?_⟩
              simp
            · exact ⟨rfl, rfl, rfl, by simp [World.setRow], fun k hk => setRow_other w r' k _ (by have := hown rfl; omega)⟩
            · have hadd : (⟨r', 0 + off, none⟩ : Addr) = ⟨r', off, none⟩ := by simp
              have hsz2 : V.cells.size = n := by simpa using hlen
              simp only [storeVar, Sem.run_bind, run_sizeOf' hn, Result.andThen_ok, hsz2, ne_eq, not_true_eq_false, if_false, Sem.run_pure, hadd, Sem.run_ite]
              rw [hst]
        · rename_i z m N e
          cases hroom : Nat.ble (off + n) N with
          | false => simp only [hroom, cond_false] at h; exact (runE_fail h).elim
          | true =>
            simp only [hroom, cond_true] at h
            have hroom' : off + n ≤ N := Nat.le_of_ble_eq_true hroom
            obtain ⟨u, hu, hlt1, h⟩ := runE_set h
            obtain ⟨r', o', e', rfl⟩ := hA
            obtain ⟨hbs, hown, hown1⟩ := hs.at' hg e' rfl
            obtain ⟨rfl, cs, hr, hob⟩ := hbs
            have hcl := hV.cellsL (SV.isAny_of hfl)
            have hlen : V.cells.toList.length = n := by rw [hcl.length, hsz]
            have hcs : cs.length = N := by rw [hr.length, bigL_length]
            have hst := run_storeCells_at P r' off e V.cells.toList 0 cs.toArray w hob (by simp at hlen ⊢; omega) (hcl.flat hfl)
            obtain ⟨W, hW, hst⟩ : ∃ W, W = w.setRow r' (cs.take off ++ V.cells.toList ++ cs.drop (off + V.cells.toList.length)).toArray ∧
                (storeCells ⟨r', off, none⟩ V.cells.toList 0).run P w = .ok () W := ⟨_, rfl, by simpa using hst⟩
            refine ⟨_, _, W, h, hc, ?_, ?_, ?_⟩
            all_goals subst hW
            · rw [St.put_h]
              have hth : (s.touch b).h = s.h := St.touch_h s b
              rw [hth]
              refine hs.put hg rfl rfl e' (by simp [World.setRow]) (fun k hk => setRow_other w r' k _ hk) ?_
              rw [setRow_heap w r' _ _ e (0, 0) hob]
              refine ⟨rfl, _, by rw [← bigL_set]; exact hr.setMany hcl (by rw [hsz, bigL_length]; exact hroom'), ?_⟩
              simp
            · exact ⟨rfl, rfl, rfl, by simp [World.setRow], fun k hk => setRow_other w r' k _ (by have := hown rfl; omega)⟩
            · have hadd : (⟨r', 0 + off, none⟩ : Addr) = ⟨r', off, none⟩ := by simp
              have hsz2 : V.cells.size = n := by simpa using hlen
              simp only [storeVar, Sem.run_bind, run_sizeOf' hn, Result.andThen_ok, hsz2, ne_eq, not_true_eq_false, if_false, Sem.run_pure, hadd, Sem.run_ite]
              rw [hst]
        · exact (runE_fail h).elim
    · simp only [hsz, decide_false, Bool.false_and, cond_false] at h
      exact (runE_fail h).elim
  · rename_i n b off hn
    simp only [beq_dec] at h
    by_cases hsz : v.cellsL.length = n
    · cases hfl : v.cellsL.all SV.flat with
      | false => simp only [hsz, hfl, decide_true, Bool.and_false, cond_false] at h; exact (runE_fail h).elim
      | true =>
        simp only [hsz, hfl, decide_true, Bool.and_true, cond_true] at h
        obtain ⟨blk, hg, hlt0, h⟩ := runE_get h
        split at h
        · rename_i l e m
          cases hroom : Nat.ble (off + n) l.length with
          | false => simp only [hroom, cond_false] at h; exact (runE_fail h).elim
          | true =>
            simp only [hroom, cond_true] at h
            have hroom' : off + n ≤ l.length := Nat.le_of_ble_eq_true hroom
            obtain ⟨u, hu, hlt1, h⟩ := runE_set h
            obtain ⟨r', o', e', rfl⟩ := hA
            obtain ⟨hbs, hown, hown1⟩ := hs.at' hg e' rfl
            obtain ⟨cs, cur, hr, hob, hpre, hcap⟩ := hbs
            have hcl := hV.cellsL (SV.isAny_of hfl)
            have hlen : V.cells.toList.length = n := by rw [hcl.length, hsz]
            have hcs : cs.length = l.length := hr.length
            have hcur : cs.length ≤ cur.size := by
              rw [← hpre]; simp; omega
            have hst := run_storeCells_at P r' off e V.cells.toList 0 cur w hob (by simp at hlen ⊢; omega) (hcl.flat hfl)
            obtain ⟨W, hW, hst⟩ : ∃ W, W = w.setRow r' (cur.toList.take off ++ V.cells.toList ++ cur.toList.drop (off + V.cells.toList.length)).toArray ∧
                (storeCells ⟨r', off, none⟩ V.cells.toList 0).run P w = .ok () W := ⟨_, rfl, by simpa using hst⟩
            refine ⟨_, _, W, h, hc, ?_, ?_, ?_⟩
            all_goals subst hW
            · rw [St.put_h]
              have hth : (s.touch b).h = s.h := St.touch_h s b
              rw [hth]
              refine hs.put hg rfl rfl e' (by simp [World.setRow]) (fun k hk => setRow_other w r' k _ hk) ?_
              rw [setRow_heap w r' _ _ e (0, 0) hob]
              refine ⟨_, _, hr.setMany hcl (by rw [hsz]; exact hroom'), rfl, ?_, ?_⟩
              · have hsplit : cur.toList = cs ++ cur.toList.drop cs.length := by
                  have := List.take_append_drop cs.length cur.toList
                  rw [hpre] at this
                  exact this.symm
                have hle : off + V.cells.toList.length ≤ cs.length := by omega
                have := take_row cs (cur.toList.drop cs.length) V.cells.toList off hle
                rw [← hsplit] at this
                simp only [this]
                exact List.take_left
              · simp at hlen hcap ⊢
                omega
            · exact ⟨rfl, rfl, rfl, by simp [World.setRow], fun k hk => setRow_other w r' k _ (by have := hown rfl; omega)⟩
            · have hadd : (⟨r', 0 + off, none⟩ : Addr) = ⟨r', off, none⟩ := by simp
              have hsz2 : V.cells.size = n := by simpa using hlen
              simp only [storeVar, Sem.run_bind, run_sizeOf' hn, Result.andThen_ok, hsz2, ne_eq, not_true_eq_false, if_false, Sem.run_pure, hadd, Sem.run_ite]
              rw [hst]
        · exact (runE_fail h).elim
    · simp only [hsz, decide_false, Bool.false_and, cond_false] at h
      exact (runE_fail h).elim
  · rename_i n b ix m off hn
    simp only [beq_dec] at h
    by_cases hsz : v.cellsL.length = n
    · cases hfl : v.cellsL.all SV.flat with
      | false => simp only [hsz, hfl, decide_true, Bool.and_false, cond_false] at h; exact (runE_fail h).elim
      | true =>
        simp only [hsz, hfl, decide_true, Bool.and_true, cond_true] at h
        obtain ⟨blk, hg, hlt0, h⟩ := runE_get h
        split at h
        · rename_i sig code N e
          cases hroom : (decide (m = sig.length) && Nat.ble (off + n) m) with
          | false => simp only [hroom, cond_false] at h; exact (runE_fail h).elim
          | true =>
            simp only [hroom, cond_true] at h
            simp only [Bool.and_eq_true, decide_eq_true_eq, ble_dec] at hroom
            obtain ⟨hm, hroom'⟩ := hroom
            split at h
            · rename_i es hes
              obtain ⟨hlt, cx1, hc1, h⟩ := need_ok h hc
              rw [mkCmp_ok hc] at hlt
              simp [cmpI] at hlt
              obtain ⟨hrg, cx2, hc2, h⟩ := need_ok h hc1
              have hrg := cellNeeds_ok hc1 hrg
              obtain ⟨u, hu, hlt1, h⟩ := runE_set h
              obtain ⟨r', o', e', hi0, rfl⟩ := hA
              obtain ⟨hw0, hw1, hw2, hw3⟩ : VecOK env sig code N := hs.wf _ _ hg
              have hvoid : (Blk.vec sig code N e).void env o' = false := by
                simp only [Blk.void, Bool.and_eq_false_imp, beq_iff_eq, beq_eq_false_iff_ne, ne_eq]
                omega
              obtain ⟨hbs, hown, hown1⟩ := hs.at' hg e' hvoid
              obtain ⟨cur, hob, hcap, hNo, hcs⟩ := hbs
              have hcl := hV.cellsL (SV.isAny_of hfl)
              have hlen : V.cells.toList.length = n := by rw [hcl.length, hsz]
              obtain ⟨es1, us1, hcell⟩ := cellsE_ok hes hcl
              rw [hsz] at es1 us1 hcell
              have hi : ((ix.den env).toNat : Int) = ix.den env := by omega
              have hpos : (mkO2 .add (mkO2 .mul (.lit m) ix) (.lit off)).den env = ((m * (ix.den env).toNat + off : Nat) : Int) := by
                rw [mkO2_ok, mkO2_ok]
                simp only [O2.ev, E.den]
                rw [Int.natCast_add, Int.natCast_mul, hi]
              have hdec := setE_ok (es := es) (code := code) hs.rows (show 0 ≤ (mkO2 .add (mkO2 .mul (.lit m) ix) (.lit off)).den env by rw [hpos]; exact Int.natCast_nonneg _)
              rw [hpos, Int.toNat_natCast] at hdec
              have hxl : (denL env es).length = n := by rw [length_denL', es1]
              -- the place lies in the row
              have hin : ∀ (i j : Nat), (i : Int) < N.den env → j < m → m * i + j < m * (N.den env).toNat := by
                intro i j h1 h2
                have := Nat.mul_le_mul_left m (show i + 1 ≤ (N.den env).toNat by omega)
                rw [Nat.mul_add, Nat.mul_one] at this
                omega
              have hrow : m * (ix.den env).toNat + off + n ≤ m * (N.den env).toNat := by
                have := Nat.mul_le_mul_left m (show (ix.den env).toNat + 1 ≤ (N.den env).toNat by omega)
                rw [Nat.mul_add, Nat.mul_one] at this
                omega
              have hlenL : m * (ix.den env).toNat + off + (denL env es).length ≤ (dec (code.den env)).length := by rw [hw2, hxl, ← hm]; exact hrow
              have hsize : m * (N.den env).toNat ≤ cur.size := by
                refine Nat.le_trans ?_ hcap
                rw [← hm, Nat.mul_comm]
                exact Nat.mul_le_mul_right m (by omega)
              have hget : ∀ q, (dec ((setE code (mkO2 .add (mkO2 .mul (.lit m) ix) (.lit off)) es).den env)).getD q 0 =
                  if m * (ix.den env).toNat + off ≤ q ∧ q < m * (ix.den env).toNat + off + n then (denL env es).getD (q - (m * (ix.den env).toNat + off)) 0 else (dec (code.den env)).getD q 0 := by
                intro q
                rw [hdec, setMany_get hlenL, hxl]
              have hst := run_storeCells_at P r' (m * (ix.den env).toNat + off) e V.cells.toList 0 cur w hob (by simp at hlen ⊢; omega) (hcl.flat hfl)
              obtain ⟨W, hW, hst⟩ : ∃ W, W = w.setRow r' (cur.toList.take (m * (ix.den env).toNat + off) ++ V.cells.toList ++ cur.toList.drop (m * (ix.den env).toNat + off + V.cells.toList.length)).toArray ∧
                  (storeCells ⟨r', m * (ix.den env).toNat + off, none⟩ V.cells.toList 0).run P w = .ok () W := ⟨_, rfl, by simpa using hst⟩
              refine ⟨_, _, W, h, hc2, ?_, ?_, ?_⟩
              all_goals subst hW
              · rw [St.put_h]
                have hth : (s.touch b).h = s.h := St.touch_h s b
                rw [hth]
                refine hs.putV hg rfl hvoid rfl e' (by simp [World.setRow]) (fun k hk => setRow_other w r' k _ hk) ?_ ?_
                · rw [setRow_heap w r' _ _ e (0, 0) hob]
                  refine ⟨_, rfl, ?_, hNo, ?_⟩
                  · simp at hlen hcap ⊢
                    omega
                  · intro i j k hiN hjk
                    have hj : j < m := by rw [hm]; exact (List.getElem?_eq_some_iff.1 hjk).1
                    have hold := hcs i j k hiN hjk
                    have hq := hin i j hiN hj
                    rw [← hm] at hold ⊢
                    simp only [rowGet, Int.toNat_natCast] at hold ⊢
                    rw [hget]
                    rw [List.getElem?_toArray]
                    by_cases hcase : m * (ix.den env).toNat + off ≤ m * i + j ∧ m * i + j < m * (ix.den env).toNat + off + n
                    · rw [if_pos hcase]
                      obtain ⟨rfl, ho1, ho2⟩ := cell_place hroom' hj hcase.1 hcase.2
                      obtain ⟨k', p1, p2⟩ := hcell (j - off) (by omega)
                      rw [show off + (j - off) = j by omega] at p1
                      rw [hjk] at p1
                      cases p1
                      rw [List.getElem?_append_left (by simp at hlen ⊢; omega), List.getElem?_append_right (by simp; omega)]
                      rw [show m * (ix.den env).toNat + j - (List.take (m * (ix.den env).toNat + off) cur.toList).length = j - off by simp; omega]
                      rw [p2, show m * (ix.den env).toNat + j - (m * (ix.den env).toNat + off) = j - off by omega]
                    · rw [if_neg hcase, ← hold]
                      by_cases h1 : m * i + j < m * (ix.den env).toNat + off
                      · rw [List.append_assoc, List.getElem?_append_left (by simp; omega), List.getElem?_take, if_pos h1, Array.getElem?_toList]
                      · rw [List.getElem?_append_right (by simp at hlen ⊢; omega), List.getElem?_drop, Array.getElem?_toList]
                        congr 1
                        simp at hlen ⊢
                        omega
                · refine ⟨hw0, hw1, ?_, ?_⟩
                  · rw [hdec, setMany_length]; exact hw2
                  · intro i j kd hiN hjk
                    have hj : j < m := by rw [hm]; exact (List.getElem?_eq_some_iff.1 hjk).1
                    have hold := hw3 i j kd hiN hjk
                    rw [← hm] at hold ⊢
                    simp only [rowGet, Int.toNat_natCast] at hold ⊢
                    rw [hget]
                    by_cases hcase : m * (ix.den env).toNat + off ≤ m * i + j ∧ m * i + j < m * (ix.den env).toNat + off + n
                    · rw [if_pos hcase]
                      obtain ⟨rfl, ho1, ho2⟩ := cell_place hroom' hj hcase.1 hcase.2
                      rw [show m * (ix.den env).toNat + j - (m * (ix.den env).toNat + off) = j - off by omega]
                      exact hrg (j - off) kd (by omega) (by rw [show off + (j - off) = j by omega]; exact hjk)
                    · rw [if_neg hcase]
                      exact hold
              · exact ⟨rfl, rfl, rfl, by simp [World.setRow], fun k hk => setRow_other w r' k _ (by have := hown rfl; omega)⟩
              · have hadd : (⟨r', 0 + (m * (ix.den env).toNat + off), none⟩ : Addr) = ⟨r', m * (ix.den env).toNat + off, none⟩ := by simp
                have hsz2 : V.cells.size = n := by simpa using hlen
                simp only [storeVar, Sem.run_bind, run_sizeOf' hn, Result.andThen_ok, hsz2, ne_eq, not_true_eq_false, if_false, Sem.run_pure, hadd, Sem.run_ite]
                rw [hst]
            · exact (runE_fail h).elim
        · exact (runE_fail h).elim
    · simp only [hsz, decide_false, Bool.false_and, cond_false] at h
      exact (runE_fail h).elim
  · exact (runE_fail h).elim

/-! ### one more element -/

theorem rowGet_snoc {m n i j : Nat} {c : Int} {xs : List Int} (hl : (dec c).length = m * n) (hj : j < m) (hi : i < n + 1) : rowGet m j (enc (dec c ++ xs)) (i : Int) = if i = n then xs.getD j 0 else rowGet m j c (i : Int) := by
  simp only [rowGet, Int.toNat_natCast, dec_enc, List.getD_eq_getElem?_getD]
  by_cases h : i = n
  · subst h
    rw [if_pos rfl, List.getElem?_append_right (by omega), hl]
    congr 2
    omega
  · have := Nat.mul_le_mul_left m (show i + 1 ≤ n by omega)
    rw [Nat.mul_add, Nat.mul_one] at this
    rw [if_neg h, List.getElem?_append_left (by omega)]

theorem VecOK.snoc {env : Env} (hr : RowFn env.f) {sig : List (Option IntKind)} {code N : E} {es : List E} (h : VecOK env sig code N) (hl : es.length = sig.length)
    (hk : ∀ j kd, j < es.length → sig[j]? = some (some kd) → kd.min ≤ (denL env es).getD j 0 ∧ (denL env es).getD j 0 ≤ kd.max) :
    VecOK env sig (.app 1001 (code :: es)) (mkO2 .add N (.lit 1)) ∧ (E.app 1001 (code :: es)).den env = enc (dec (code.den env) ++ denL env es) ∧ (mkO2 .add N (.lit 1)).den env = N.den env + 1 := by
  obtain ⟨h0, h1, h2, h3⟩ := h
  have hp : (mkO2 .add N (.lit 1)).den env = N.den env + 1 := by rw [mkO2_ok]; rfl
  have hc : (E.app 1001 (code :: es)).den env = enc (dec (code.den env) ++ denL env es) := by
    simp only [E.den, denL]
    rw [hr _ _ (by omega) (by omega), rowOp_snoc]
  refine ⟨⟨by rw [hp]; omega, h1, ?_, ?_⟩, hc, hp⟩
  · rw [hc, hp, dec_enc, List.length_append, h2, length_denL', hl, Int.toNat_add h0 (by omega)]
    rw [Nat.mul_add, show Int.toNat 1 = 1 from rfl, Nat.mul_one]
  · intro i j kd hi hjk
    have hj : j < sig.length := (List.getElem?_eq_some_iff.1 hjk).1
    rw [hp] at hi
    rw [hc, rowGet_snoc h2 hj (by omega)]
    split
    · exact hk j kd (by omega) hjk
    · exact h3 i j kd (by omega) hjk

theorem vec_bs {env : Env} {ρ' : Pl} {sig : List (Option IntKind)} {code N code' N' : E} {e : TypeId} {cur : Array Value} {cs news : List Value} {xs : List Int} {G : Nat}
    (hN0 : 0 ≤ N.den env) (hl : (dec (code.den env)).length = sig.length * (N.den env).toNat) (hN : N'.den env = N.den env + 1) (hc : code'.den env = enc (dec (code.den env) ++ xs))
    (hcs : cs.length = (N.den env).toNat * sig.length) (hnl : news.length = sig.length) (hcur : cur.toList.take (cs.length + news.length) = cs ++ news)
    (hold : ∀ (i j : Nat) (k : Option IntKind), (i : Int) < N.den env → sig[j]? = some k → cs[sig.length * i + j]? = some (cellW k (rowGet sig.length j (code.den env) i)))
    (hnew : ∀ (j : Nat), j < sig.length → ∃ k, sig[j]? = some k ∧ news[j]? = some (cellW k (xs.getD j 0)))
    (hG : (N.den env).toNat + 1 ≤ G) (hsz : G * sig.length ≤ cur.size) : BS env ρ' (some (.cells cur e (0, 0))) G (.vec sig code' N' e) := by
  refine ⟨cur, rfl, hsz, by rw [hN]; omega, ?_⟩
  intro i j k hi hjk
  have hj : j < sig.length := (List.getElem?_eq_some_iff.1 hjk).1
  rw [hN] at hi
  have hq : sig.length * i + j < cs.length + news.length := by
    rw [hcs, hnl, Nat.mul_comm]
    have := Nat.mul_le_mul_right sig.length (show i ≤ (N.den env).toNat by omega)
    by_cases hi2 : i = (N.den env).toNat
    · subst hi2; omega
    · have := Nat.mul_le_mul_right sig.length (show i + 1 ≤ (N.den env).toNat by omega)
      rw [Nat.add_mul, Nat.one_mul] at this
      omega
  have h1 : cur[sig.length * i + j]? = (cs ++ news)[sig.length * i + j]? := by
    rw [← hcur, List.getElem?_take, if_pos hq, Array.getElem?_toList]
  rw [h1, hc, rowGet_snoc hl hj (by omega)]
  by_cases hi2 : i = (N.den env).toNat
  · rw [if_pos hi2]
    obtain ⟨k', p1, p2⟩ := hnew j hj
    rw [hjk] at p1
    cases p1
    rw [List.getElem?_append_right (by rw [hcs, hi2, Nat.mul_comm]; omega), ← p2]
    congr 1
    rw [hcs, hi2, Nat.mul_comm]
    omega
  · rw [if_neg hi2, ← hold i j k (by omega) hjk]
    have := Nat.mul_le_mul_right sig.length (show i + 1 ≤ (N.den env).toNat by omega)
    rw [Nat.add_mul, Nat.one_mul] at this
    rw [List.getElem?_append_left (by rw [hcs, Nat.mul_comm]; omega)]

end Go.SX

namespace Go.SX
open Go Go.RowKit
set_option linter.unusedVariables false
set_option linter.unusedSimpArgs false
set_option linter.unusedSectionVars false

/-! ### comparisons, arithmetic -/

theorem guard_int {P : Program} (op : BinOp) (t : TypeId) (xo yo : Operand) (k k' : IntKind) (a b : Int) (w : World) : (eqGuard op t xo yo (.int k a) (.int k' b)).run P w = .ok () w := by
  cases op <;> simp [eqGuard]
theorem guard_bool {P : Program} (op : BinOp) (t : TypeId) (xo yo : Operand) (a b : Bool) (w : World) : (eqGuard op t xo yo (.bool a) (.bool b)).run P w = .ok () w := by
  cases op <;> simp [eqGuard]
theorem guard_str {P : Program} (op : BinOp) (t : TypeId) (xo yo : Operand) (a b : ByteArray) (w : World) : (eqGuard op t xo yo (.string a) (.string b)).run P w = .ok () w := by
  cases op <;> simp [eqGuard]
theorem guard_ptr {P : Program} (op : BinOp) (t : TypeId) (xo yo : Operand) (a b : Option Addr) (w : World) : (eqGuard op t xo yo (.pointer a) (.pointer b)).run P w = .ok () w := by
  cases op <;> simp [eqGuard]
theorem guard_slice {P : Program} (op : BinOp) (t : TypeId) (xo yo : Operand) (a b : Option Addr) (l c l' c' : Nat) (w : World) :
    (eqGuard op t xo yo (.slice a l c) (.slice b l' c')).run P w = .ok () w := by
  cases op <;> simp [eqGuard]

theorem run_cmp {P : Program} {op : BinOp} (h : isCmp op = true) (t : TypeId) (k : IntKind) (a b : Int) (w : World) : (binOp op t (.int k a) (.int k b)).run P w = .ok (.bool (cmpI op a b)) w := by
  cases op <;> simp [isCmp] at h <;> simp [binOp, Op.intCmp, cmpI]

theorem run_arith {P : Program} {op : BinOp} (h : isCmp op = false) (t : TypeId) (k k' : IntKind) (a b : Int) (w : World) (hk : k = k' ∨ op = .shl ∨ op = .shr)
    (hd : (op = .quo ∨ op = .rem) → b ≠ 0) (hsh : (op = .shl ∨ op = .shr) → 0 ≤ b) : (binOp op t (.int k a) (.int k' b)).run P w = .ok (.int k (binI op k a b)) w := by
  cases op <;> simp [isCmp] at h <;> simp at hk hd hsh <;> (try subst hk) <;>
    simp [binOp, Op.intArith, Op.intDiv, Op.intBits, Op.shift, binI, hd] <;> (try omega)

theorem needs2_ok {env : Env} {cx : Ctx} {op : BinOp} {b : E} {k : Ctx → Tree} {s : St} {r : Out × St} (h : runE env (needs2 cx op b k) s = some r) (hc : cx.ok env) :
    ((op = .quo ∨ op = .rem) → b.den env ≠ 0) ∧ ((op = .shl ∨ op = .shr) → 0 ≤ b.den env) ∧ ∃ cx', cx'.ok env ∧ runE env (k cx') s = some r := by
  unfold needs2 at h
  split at h
  · obtain ⟨h1, cx', hc', h2⟩ := need_ok h hc
    rw [mkCmp_ok hc] at h1
    simp [cmpI, E.den] at h1
    exact ⟨fun _ => h1, by simp, cx', hc', h2⟩
  · obtain ⟨h1, cx', hc', h2⟩ := need_ok h hc
    rw [mkCmp_ok hc] at h1
    simp [cmpI, E.den] at h1
    exact ⟨fun _ => h1, by simp, cx', hc', h2⟩
  · obtain ⟨h1, cx', hc', h2⟩ := need_ok h hc
    rw [mkCmp_ok hc] at h1
    simp [cmpI, E.den] at h1
    exact ⟨by simp, fun _ => h1, cx', hc', h2⟩
  · obtain ⟨h1, cx', hc', h2⟩ := need_ok h hc
    rw [mkCmp_ok hc] at h1
    simp [cmpI, E.den] at h1
    exact ⟨by simp, fun _ => h1, cx', hc', h2⟩
  · rename_i h1 h2 h3 h4
    refine ⟨?_, ?_, cx, hc, h⟩
    · rintro (e | e)
      · exact absurd e h1
      · exact absurd e h2
    · rintro (e | e)
      · exact absurd e h3
      · exact absurd e h4

theorem eqRes_ok {env : Env} {ρ : Pl} {op : BinOp} (h : isEq op = true) (b : BE) : Rep env ρ (eqRes op b) (.bool (match op with | .neq => !b.den env | _ => b.den env)) := by
  cases op <;> simp [isEq] at h <;> simp [eqRes, Rep, mkNeg_ok]

/-- '==' and '!=' out of what Op.equal finds -/
theorem run_eqOp {P : Program} {op : BinOp} (h : isEq op = true) {t : TypeId} {X Y : Value} {w : World} {q : Bool} (hX : ∀ k n, X ≠ .int k n) (hf : ∀ k n, X ≠ .float k n) (hc : ∀ k a b, X ≠ .complex k a b)
    (hs : ∀ b, X ≠ .string b) (hq : (Op.equal t X Y).run P w = .ok q w) : (binOp op t X Y).run P w = .ok (.bool (match op with | .neq => !q | _ => q)) w := by
  cases op <;> simp [isEq] at h
  all_goals
    cases X <;> first
      | exact absurd rfl (hX _ _)
      | exact absurd rfl (hf _ _)
      | exact absurd rfl (hc _ _ _)
      | exact absurd rfl (hs _)
      | (cases Y <;> simp only [binOp] <;> simp [hq])

theorem equal_eq (t : TypeId) (x y : Value) : Op.equal t x y = Op.equalIn (9999 + 1) t x y := rfl

/-! ### structs of integers and bools -/

theorem equalIn_int {P : Program} {t : TypeId} {kd k : IntKind} (d : Nat) (h : P.underlying t = some (.int kd)) (a b : Int) (w : World) : (Op.equalIn (d + 1) t (.int k a) (.int k b)).run P w = .ok (a == b) w := by
  simp [Op.equalIn, run_underlying h]
theorem equalIn_bool {P : Program} {t : TypeId} (d : Nat) (h : P.underlying t = some .bool) (a b : Bool) (w : World) : (Op.equalIn (d + 1) t (.bool a) (.bool b)).run P w = .ok (a == b) w := by
  simp [Op.equalIn, run_underlying h]
theorem equal_bool {P : Program} {t : TypeId} (h : P.underlying t = some .bool) (a b : Bool) (w : World) : (Op.equal t (.bool a) (.bool b)).run P w = .ok (a == b) w := by
  rw [equal_eq]; exact equalIn_bool _ h a b w

theorem equalIn_ptr_l {P : Program} {t e : TypeId} (d : Nat) (h : P.underlying t = some (.pointer e)) (b : Option Addr) (w : World) : (Op.equalIn (d + 1) t (.pointer none) (.pointer b)).run P w = .ok b.isNone w := by
  cases b <;> simp [Op.equalIn, run_underlying h]
theorem equalIn_ptr_r {P : Program} {t e : TypeId} (d : Nat) (h : P.underlying t = some (.pointer e)) (a : Addr) (w : World) : (Op.equalIn (d + 1) t (.pointer (some a)) (.pointer none)).run P w = .ok false w := by
  simp [Op.equalIn, run_underlying h]
theorem equalIn_ptr {P : Program} {t e : TypeId} {n : Nat} (d : Nat) (h : P.underlying t = some (.pointer e)) (hn : szOf P e = some (n + 1)) (a b : Addr) {q : Bool} {w : World} (hq : (sameAddr a b).run P w = .ok q w) :
    (Op.equalIn (d + 1) t (.pointer (some a)) (.pointer (some b))).run P w = .ok q w := by
  simp [Op.equalIn, run_underlying h, run_sizeOf' hn, hq]
theorem equalIn_sl_l {P : Program} {t e : TypeId} (d : Nat) (h : P.underlying t = some (.slice e)) (b : Option Addr) (l c l' c' : Nat) (w : World) : (Op.equalIn (d + 1) t (.slice none l c) (.slice b l' c')).run P w = .ok b.isNone w := by
  cases b <;> simp [Op.equalIn, run_underlying h]
theorem equalIn_sl_r {P : Program} {t e : TypeId} (d : Nat) (h : P.underlying t = some (.slice e)) (a : Addr) (l c l' c' : Nat) (w : World) : (Op.equalIn (d + 1) t (.slice (some a) l c) (.slice none l' c')).run P w = .ok false w := by
  simp [Op.equalIn, run_underlying h]

/-- the value of a type with some cells -/
def ValP (P : Program) (t : TypeId) (us : List Value) (u : Value) : Prop := (aggT P t = some true ∧ u = .agg us.toArray) ∨ (aggT P t = some false ∧ us = [u])
theorem ValP.agg {P : Program} {t : TypeId} {us : List Value} {u : Value} (h : ValP P t us u) (ha : aggT P t = some true) : u = .agg us.toArray := by
  rcases h with ⟨_, h⟩ | ⟨e, _⟩
  · exact h
  · rw [ha] at e; cases e
theorem partS_ok {P : Program} {env : Env} {ρ : Pl} {xs a : List SV} {us : List Value} {off : Nat} {t : TypeId} (h : partS P xs off t = some a) (hx : RepL env ρ xs us) (w : World) :
    ∃ cs u, (part t us.toArray off).run P w = .ok u w ∧ RepL env ρ a cs ∧ ValP P t cs u := by
  unfold partS at h
  split at h
  · rename_i n hs ha
    obtain ⟨rfl, hl⟩ := cut_ok h
    refine ⟨_, .agg ((us.drop off).take n).toArray, ?_, (hx.drop _).take _, .inl ⟨ha, rfl⟩⟩
    simp [part, run_isAgg' ha, run_sizeOf' hs, List.extract_eq_take_drop]
  · rename_i n hs ha
    simp only [beq_dec] at h
    by_cases hn : n = 1
    · simp only [hn, decide_true, cond_true] at h
      obtain ⟨rfl, hl⟩ := cut_ok h
      have hr := (hx.drop off).take 1
      have hlen := hr.length
      rw [hl] at hlen
      obtain ⟨u, hu⟩ : ∃ u, (us.drop off).take 1 = [u] := by
        cases hq : (us.drop off).take 1 with
        | nil => rw [hq] at hlen; cases hlen
        | cons u l => cases l with
          | nil => exact ⟨u, rfl⟩
          | cons _ _ => rw [hq] at hlen; simp at hlen
      have hu' : us[off]? = some u := by
        have : ((us.drop off).take 1)[0]? = some u := by rw [hu]; rfl
        simpa using this
      refine ⟨_, u, ?_, hr, .inr ⟨ha, hu⟩⟩
      simp [part, run_isAgg' ha, hu']
    · simp only [hn, decide_false, cond_false] at h
      cases h
  · cases h

theorem eqAll_fields {P : Program} {env : Env} {d : Nat} {w : World} {cs ds : Array Value} {g : Field → Option BE}
    (hg : ∀ f b, g f = some b → f.name ≠ "_" ∧ ∃ u v, (part f.type cs f.offset).run P w = .ok u w ∧ (part f.type ds f.offset).run P w = .ok v w ∧ (Op.equalIn d f.type u v).run P w = .ok (b.den env) w) :
    ∀ (fs : List Field) (b : BE), eqAll g fs = some b → (Op.eqFields d cs ds fs).run P w = .ok (b.den env) w
  | [], b, h => by simp [eqAll] at h; subst h; simp [Op.eqFields, BE.den]
  | f :: fs, b, h => by
      simp only [eqAll] at h
      split at h
      · rename_i x y hx hy
        cases h
        obtain ⟨hn, u, v, p1, p2, p3⟩ := hg f x hx
        simp only [Op.eqFields, ne_eq, hn, not_false_eq_true, if_true, Sem.run_bind, p1, p2, p3, Result.andThen_ok, Sem.run_ite, eqAll_fields hg fs y hy, Sem.run_pure]
        rw [mkAnd_ok]
        cases x.den env <;> simp
      · cases h
theorem eqAll_items {P : Program} {env : Env} {d : Nat} {w : World} {cs ds : Array Value} {g : Nat → Option BE} {e : TypeId} {c : Nat}
    (hg : ∀ i b, g i = some b → ∃ u v, (part e cs (i * c)).run P w = .ok u w ∧ (part e ds (i * c)).run P w = .ok v w ∧ (Op.equalIn d e u v).run P w = .ok (b.den env) w) :
    ∀ (is : List Nat) (b : BE), eqAll g is = some b → (Op.eqItems d e c cs ds is).run P w = .ok (b.den env) w
  | [], b, h => by simp [eqAll] at h; subst h; simp [Op.eqItems, BE.den]
  | i :: is, b, h => by
      simp only [eqAll] at h
      split at h
      · rename_i x y hx hy
        cases h
        obtain ⟨u, v, p1, p2, p3⟩ := hg i x hx
        simp only [Op.eqItems, Sem.run_bind, p1, p2, p3, Result.andThen_ok, Sem.run_ite, eqAll_items hg is y hy, Sem.run_pure]
        rw [mkAnd_ok]
        cases x.den env <;> simp
      · cases h

theorem eqV_ok {P : Program} {env : Env} {ρ : Pl} {cx : Ctx} (hc : cx.ok env) (w : World) : ∀ (d D : Nat) (t : TypeId) (xs ys : List SV) (us vs : List Value) (u v : Value) (b : BE),
    eqV P cx d t xs ys = some b → d ≤ D → RepL env ρ xs us → RepL env ρ ys vs → ValP P t us u → ValP P t vs v → (Op.equalIn D t u v).run P w = .ok (b.den env) w
  | 0, D, t, xs, ys, us, vs, u, v, b, h, hd, hx, hy, hu, hv => by simp [eqV] at h
  | d + 1, 0, t, xs, ys, us, vs, u, v, b, h, hd, hx, hy, hu, hv => by omega
  | d + 1, D + 1, t, xs, ys, us, vs, u, v, b, h, hd, hx, hy, hu, hv => by
      simp only [eqV] at h
      split at h
      · rename_i kd hk
        have ha : aggT P t = some false := by simp [aggT, hk]
        split at h
        · rename_i k a k' a'
          split at h
          · rename_i hkk
            cases h
            subst hkk
            obtain ⟨x, _, hx, h0, rfl⟩ := hx
            obtain ⟨y, _, hy, h1, rfl⟩ := hy
            rcases hu with ⟨e, _⟩ | ⟨_, hu⟩
            · rw [ha] at e; cases e
            rcases hv with ⟨e, _⟩ | ⟨_, hv⟩
            · rw [ha] at e; cases e
            cases hu; cases hv
            have hx' : u = _ := hx
            have hy' : v = _ := hy
            rw [hx', hy', equalIn_int D hk, seenC_ok hc, mkCmp_ok hc]
            rfl
          · cases h
        · cases h
      · rename_i hk
        have ha : aggT P t = some false := by simp [aggT, hk]
        split at h
        · rename_i a a'
          cases h
          obtain ⟨x, _, hx, h0, rfl⟩ := hx
          obtain ⟨y, _, hy, h1, rfl⟩ := hy
          rcases hu with ⟨e, _⟩ | ⟨_, hu⟩
          · rw [ha] at e; cases e
          rcases hv with ⟨e, _⟩ | ⟨_, hv⟩
          · rw [ha] at e; cases e
          cases hu; cases hv
          have hx' : u = _ := hx
          have hy' : v = _ := hy
          rw [hx', hy', equalIn_bool D hk, mkEqb_ok]
        · cases h
      · rename_i fs hk
        have ha : aggT P t = some true := by simp [aggT, hk]
        obtain rfl := hu.agg ha
        obtain rfl := hv.agg ha
        cases hs : P.stoodInHeld t with
        | true => rw [hs] at h; cases h
        | false =>
          rw [hs] at h
          simp only [Bool.not_false, cond_true] at h
          have hf : P.fieldsOf t = fs := by simp [Program.fieldsOf, hk]
          rw [run_equalIn_struct w D t _ _ (by rw [hf]; exact hk) hs, hf]
          refine eqAll_fields (g := _) (fun f b' hb => ?_) fs.toList b h
          cases hn : (f.name != "_") with
          | false => rw [hn] at hb; cases hb
          | true =>
            rw [hn, cond_true] at hb
            simp only [bne_iff_ne] at hn
            split at hb
            · rename_i a a' e1 e2
              obtain ⟨cs, u, p1, r1, v1⟩ := partS_ok e1 hx w
              obtain ⟨ds, v, p2, r2, v2⟩ := partS_ok e2 hy w
              exact ⟨hn, u, v, p1, p2, eqV_ok hc w d D f.type a a' cs ds u v b' hb (by omega) r1 r2 v1 v2⟩
            · cases hb
      · rename_i n e hk
        have ha : aggT P t = some true := by simp [aggT, hk]
        obtain rfl := hu.agg ha
        obtain rfl := hv.agg ha
        split at h
        · rename_i m hm
          obtain ⟨i, hi, him⟩ := szOf_ok hm
          have hce : P.cellsOf e = m := by simp [Program.cellsOf, hi, him]
          rw [run_equalIn_array w D _ _ hk hi, hce]
          refine eqAll_items (g := _) (fun j b' hb => ?_) _ b h
          split at hb
          · rename_i a a' e1 e2
            obtain ⟨cs, u, p1, r1, v1⟩ := partS_ok e1 hx w
            obtain ⟨ds, v, p2, r2, v2⟩ := partS_ok e2 hy w
            exact ⟨u, v, p1, p2, eqV_ok hc w d D e a a' cs ds u v b' hb (by omega) r1 r2 v1 v2⟩
          · cases hb
        · cases h
      · cases h

theorem eqAgg_ok {P : Program} {env : Env} {ρ : Pl} {cx : Ctx} (hc : cx.ok env) {t : TypeId} {xs ys : List SV} {us vs : List Value} {b : BE} (h : eqAgg P cx t xs ys = some b)
    (hx : RepL env ρ xs us) (hy : RepL env ρ ys vs) (w : World) :
    (Op.equal t (.agg us.toArray) (.agg vs.toArray)).run P w = .ok (b.den env) w ∧ P.eqGuardType P.depth t = false := by
  unfold eqAgg at h
  split at h
  · rename_i ha
    cases hcond : P.eqGuardType P.depth t with
    | true => rw [hcond] at h; cases h
    | false =>
      rw [hcond] at h
      simp only [Bool.not_false, cond_true] at h
      exact ⟨eqV_ok hc w 20 _ t xs ys us vs _ _ b h (by decide) hx hy (.inl ⟨ha, rfl⟩) (.inl ⟨ha, rfl⟩), rfl⟩
  · cases h

/-! ### binary operations -/

theorem SA.same_ok {env : Env} {ρ : Pl} {a b : SA} {A A' : Addr} {v : Bool} (h : SA.same a b = some v) (ha : RepA env ρ a A) (hb : RepA env ρ b A') : A.block = A'.block ∧ (v = true ↔ A = A') := by
  unfold SA.same at h
  split at h
  · rename_i b1 o1 b2 o2
    simp only [beq_dec] at h
    by_cases hbb : b1 = b2
    · subst hbb
      simp only [decide_true, cond_true, Option.some.injEq] at h
      obtain ⟨r, o, e, rfl⟩ := ha
      obtain ⟨r', o', e', rfl⟩ := hb
      rw [e] at e'
      cases e'
      refine ⟨rfl, ?_⟩
      rw [← h]
      simp
    · simp only [hbb, decide_false, cond_false] at h
      cases h
  · cases h

theorem binS_ok {P : Program} {env : Env} {ρ : Pl} {B : Nat} {cx : Ctx} {op : BinOp} {t : TypeId} {x y : SV} {k : SV → Ctx → Tree} {s : St} {r : Out × St} {w : World} {X Y : Value}
    (h : runE env (binS P cx op t x y k) s = some r) (hc : cx.ok env) (hs : HS env ρ B s.h w) (hX : Rep env ρ x X) (hY : Rep env ρ y Y) :
    ∃ v V cx' s', runE env (k v cx') s' = some r ∧ cx'.ok env ∧ s'.h = s.h ∧ Rep env ρ v V ∧
      ∀ xo yo, (eqGuard op t xo yo X Y).run P w = .ok () w ∧ (binOp op t X Y).run P w = .ok V w := by
  unfold binS at h
  split at h
  · -- integers
    rename_i kx a ky b
    rw [show X = _ from hX, show Y = _ from hY]
    split at h
    · rename_i hcmp
      split at h
      · rename_i hk
        subst hk
        refine ⟨_, _, cx, s, h, hc, rfl, ?_, fun xo yo => ⟨guard_int .., run_cmp hcmp t kx _ _ w⟩⟩
        show _ = _
        rw [mkCmp_ok hc]
      · exact (runE_fail h).elim
    · rename_i hcmp
      have hcmp' : isCmp op = false := by simpa using hcmp
      split at h
      · rename_i hk
        obtain ⟨h1, h2, cx', hc', h3⟩ := needs2_ok h hc
        refine ⟨_, _, cx', s, h3, hc', rfl, ?_, fun xo yo => ⟨guard_int .., run_arith hcmp' t kx ky _ _ w hk h1 h2⟩⟩
        show _ = _
        rw [mkBin_ok hc']
      · exact (runE_fail h).elim
  · -- bools
    rename_i a b
    rw [show X = _ from hX, show Y = _ from hY]
    split at h
    · rename_i hu
      split at h
      · rename_i he
        refine ⟨_, _, cx, s, h, hc, rfl, eqRes_ok he _, fun xo yo => ⟨guard_bool .., ?_⟩⟩
        rw [mkEqb_ok]
        exact run_eqOp he (by simp) (by simp) (by simp) (by simp) (equal_bool hu _ _ w)
      · exact (runE_fail h).elim
    · exact (runE_fail h).elim
  · -- strings
    rename_i a b
    rw [show X = _ from hX, show Y = _ from hY]
    split at h
    · rename_i v hv
      split at h
      · rename_i sv hsv
        refine ⟨_, v, cx, s, h, hc, rfl, ofV1_ok hsv, fun xo yo => ⟨guard_str .., ?_⟩⟩
        have e : binOp op t (.string a) (.string b) = Op.stringOp op a b := by cases op <;> rfl
        rw [e, hv]
        rfl
      · exact (runE_fail h).elim
    · exact (runE_fail h).elim
  · -- pointers
    rename_i a b
    obtain ⟨A, hA, rfl⟩ := hX
    obtain ⟨A', hA', rfl⟩ := hY
    split at h
    · rename_i e hu
      split at h
      · rename_i he
        split at h
        · cases hA; cases hA'
          refine ⟨_, _, cx, s, h, hc, rfl, eqRes_ok he _, fun xo yo => ⟨guard_ptr .., ?_⟩⟩
          exact run_eqOp he (by simp) (by simp) (by simp) (by simp) (by rw [equal_eq]; exact equalIn_ptr_l 9999 hu none w)
        · rename_i b0
          cases hA
          obtain ⟨A2, hA2, rfl⟩ := hA'
          refine ⟨_, _, cx, s, h, hc, rfl, eqRes_ok he _, fun xo yo => ⟨guard_ptr .., ?_⟩⟩
          exact run_eqOp he (by simp) (by simp) (by simp) (by simp) (by rw [equal_eq]; exact equalIn_ptr_l 9999 hu (some A2) w)
        · rename_i b0
          cases hA'
          obtain ⟨A2, hA2, rfl⟩ := hA
          refine ⟨_, _, cx, s, h, hc, rfl, eqRes_ok he _, fun xo yo => ⟨guard_ptr .., ?_⟩⟩
          exact run_eqOp he (by simp) (by simp) (by simp) (by simp) (by rw [equal_eq]; exact equalIn_ptr_r 9999 hu A2 w)
        · rename_i a0 b0
          obtain ⟨A1, hA1, rfl⟩ := hA
          obtain ⟨A2, hA2, rfl⟩ := hA'
          split at h
          · rename_i sz hsz
            split at h
            · rename_i v hv
              obtain ⟨hbl, hiff⟩ := SA.same_ok hv hA1 hA2
              refine ⟨_, _, cx, s, h, hc, rfl, eqRes_ok he _, fun xo yo => ⟨guard_ptr .., ?_⟩⟩
              refine run_eqOp he (by simp) (by simp) (by simp) (by simp) ?_
              rw [equal_eq]
              refine equalIn_ptr 9999 hu hsz A1 A2 ?_
              have : (A1 == A2) = v := by
                cases v with
                | true => simpa using hiff.1 rfl
                | false =>
                  have : ¬ A1 = A2 := fun e => by cases hiff.2 e
                  simpa using this
              simp [sameAddr, hbl, this, BE.den]
            · rename_i hnone
              obtain ⟨u, hg1, hl1, h⟩ := runE_get h
              obtain ⟨v, hg2, hl2, h⟩ := runE_get h
              split at h
              · rename_i l1 t1 l2 t2
                simp only [beq_dec] at h
                by_cases hnn : a0.name = b0.name
                · simp only [hnn, decide_true, cond_true] at h
                  exact (runE_fail h).elim
                · simp only [hnn, decide_false, cond_false] at h
                  rw [St.touch_h] at hg2
                  obtain ⟨r1, o1, e1, hb1, hw1, _⟩ := hs.at _ _ hg1 (fun _ => rfl)
                  obtain ⟨r2, o2, e2, hb2, hw2, _⟩ := hs.at _ _ hg2 (fun _ => rfl)
                  obtain ⟨rfl, c1, _, ob1⟩ := hb1
                  obtain ⟨rfl, c2, _, ob2⟩ := hb2
                  have hr12 : r1 ≠ r2 := by
                    intro hr
                    subst hr
                    exact hnn (hs.inj _ _ r1 0 0 e1 e2 (hw1 rfl) (by rw [hg1]; exact Solid.of rfl) (by rw [hg2]; exact Solid.of rfl))
                  have ba : A1.block = r1 := by
                    cases a0 with
                    | c b off => obtain ⟨r, o, e', rfl⟩ := hA1; simp only [SA.name] at e1; rw [e1] at e'; cases e'; rfl
                    | s b ix m off => obtain ⟨r, o, e', _, rfl⟩ := hA1; simp only [SA.name] at e1; rw [e1] at e'; cases e'; rfl
                    | g b off => obtain ⟨r, o, e', rfl⟩ := hA1; simp only [SA.name] at e1; rw [e1] at e'; cases e'; rfl
                    | h b ix m off => obtain ⟨r, o, e', _, rfl⟩ := hA1; simp only [SA.name] at e1; rw [e1] at e'; cases e'; rfl
                  have bb : A2.block = r2 := by
                    cases b0 with
                    | c b off => obtain ⟨r, o, e', rfl⟩ := hA2; simp only [SA.name] at e2; rw [e2] at e'; cases e'; rfl
                    | s b ix m off => obtain ⟨r, o, e', _, rfl⟩ := hA2; simp only [SA.name] at e2; rw [e2] at e'; cases e'; rfl
                    | g b off => obtain ⟨r, o, e', rfl⟩ := hA2; simp only [SA.name] at e2; rw [e2] at e'; cases e'; rfl
                    | h b ix m off => obtain ⟨r, o, e', _, rfl⟩ := hA2; simp only [SA.name] at e2; rw [e2] at e'; cases e'; rfl
                  refine ⟨_, _, cx, _, h, hc, by rw [St.touch_h, St.touch_h], eqRes_ok he _, fun xo yo => ⟨guard_ptr .., ?_⟩⟩
                  refine run_eqOp he (by simp) (by simp) (by simp) (by simp) ?_
                  rw [equal_eq]
                  have hne : A1 ≠ A2 := fun e => hr12 (by rw [← ba, ← bb, e])
                  have := run_sameAddr_other (P := P) w hne (by rw [ba]; exact ob1) (by rw [bb]; exact ob2)
                  exact equalIn_ptr 9999 hu hsz A1 A2 this
              · exact (runE_fail h).elim
          · exact (runE_fail h).elim
      · exact (runE_fail h).elim
    · exact (runE_fail h).elim
  · -- structs
    rename_i xs ys
    obtain ⟨us, hus, rfl⟩ := hX
    obtain ⟨vs, hvs, rfl⟩ := hY
    split at h
    · rename_i he
      split at h
      · rename_i b hb
        obtain ⟨h1, h2⟩ := eqAgg_ok hc hb hus hvs w
        exact ⟨_, _, cx, s, h, hc, rfl, eqRes_ok he _, fun xo yo => ⟨run_eqGuard_agg w op t xo yo _ _ h2, run_eqOp he (by simp) (by simp) (by simp) (by simp) h1⟩⟩
      · exact (runE_fail h).elim
    · exact (runE_fail h).elim
  · -- slices against nil
    rename_i a l1 c1 b l2 c2
    obtain ⟨A, c, hA, _, _, rfl⟩ := hX
    obtain ⟨A', c', hA', _, _, rfl⟩ := hY
    split at h
    · rename_i e hu
      split at h
      · rename_i he
        split at h
        · cases hA; cases hA'
          refine ⟨_, _, cx, s, h, hc, rfl, eqRes_ok he _, fun xo yo => ⟨guard_slice .., ?_⟩⟩
          exact run_eqOp he (by simp) (by simp) (by simp) (by simp) (by rw [equal_eq]; exact equalIn_sl_l 9999 hu none _ _ _ _ w)
        · cases hA
          obtain ⟨A2, hA2, rfl⟩ := hA'
          refine ⟨_, _, cx, s, h, hc, rfl, eqRes_ok he _, fun xo yo => ⟨guard_slice .., ?_⟩⟩
          exact run_eqOp he (by simp) (by simp) (by simp) (by simp) (by rw [equal_eq]; exact equalIn_sl_l 9999 hu (some A2) _ _ _ _ w)
        · cases hA'
          obtain ⟨A2, hA2, rfl⟩ := hA
          refine ⟨_, _, cx, s, h, hc, rfl, eqRes_ok he _, fun xo yo => ⟨guard_slice .., ?_⟩⟩
          exact run_eqOp he (by simp) (by simp) (by simp) (by simp) (by rw [equal_eq]; exact equalIn_sl_r 9999 hu A2 _ _ _ _ w)
        · exact (runE_fail h).elim
      · exact (runE_fail h).elim
    · exact (runE_fail h).elim
  · exact (runE_fail h).elim

end Go.SX
