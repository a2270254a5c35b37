/- Calls, rounds, returns: the reckoner is right. -/
import Derived.Test.YtjgkcgkhcdeadaaSw19
import Derived.RangeFuncLeaves
namespace Go.SX
open Go Go.RowKit
set_option linter.unusedVariables false
set_option linter.unusedSimpArgs false
set_option linter.unusedSectionVars false

def RdS (ρ : Pl) : Option Nat → Option Nat → Prop
  | none, r => r = none
  | some l, r => ∃ x o, ρ l = some (x, o) ∧ r = some x

def DfS (ρ : Pl) : List Nat → List Deferred → Prop
  | [], ds => ds = []
  | d :: l, ds => ∃ r o ds', ρ d = some (r, o) ∧ DfS ρ l ds' ∧ ds = { target := .collected r, args := #[] } :: ds'

theorem RdS.mono {ρ ρ' : Pl} (h : ρ.le ρ') {a b : Option Nat} (hr : RdS ρ a b) : RdS ρ' a b := by
  cases a with
  | none => exact hr
  | some l => obtain ⟨x, o, e, rfl⟩ := hr; exact ⟨x, o, h _ _ e, rfl⟩

theorem DfS.mono {ρ ρ' : Pl} (h : ρ.le ρ') : ∀ {a : List Nat} {b : List Deferred}, DfS ρ a b → DfS ρ' a b
  | [], b, hr => hr
  | d :: l, b, hr => by obtain ⟨r, o, ds', e, e2, rfl⟩ := hr; exact ⟨r, o, ds', h _ _ e, DfS.mono h e2, rfl⟩

def Leaves (tail : List Item) : Option Code → List Item → Prop
  | none, todo => todo = tail
  | some .ret, todo => ∃ k, todo = .code .ret :: k
  | some (.exit id), todo => ∃ k, todo = .code (.exit id) :: (k ++ tail) ∧ exitTo id k = none
  | _, _ => False

theorem exitTo_app {id : Nat} : ∀ {k k' tail : List Item}, exitTo id k = some k' → exitTo id (k ++ tail) = some (k' ++ tail)
  | [], k', tail, h => by cases h
  | i :: k, k', tail, h => by
      cases i with
      | inBlock id' =>
        simp only [exitTo, List.cons_append] at h ⊢
        split at h
        · rename_i he; rw [if_pos he]; cases h; rfl
        · rename_i he; rw [if_neg he]; exact exitTo_app h
      | _ => simp only [exitTo, List.cons_append] at h ⊢; exact exitTo_app h
theorem exitTo_none {id : Nat} : ∀ {k tail : List Item}, exitTo id k = none → exitTo id (k ++ tail) = exitTo id tail
  | [], tail, h => rfl
  | i :: k, tail, h => by
      cases i with
      | inBlock id' =>
        simp only [exitTo, List.cons_append] at h ⊢
        split at h
        · cases h
        · rename_i he; rw [if_neg he]; exact exitTo_none h
      | _ => simp only [exitTo, List.cons_append] at h ⊢; exact exitTo_none h

def FrOK (P : Program) (env : Env) (B : Nat) (R : Run) : Prop :=
  ∀ (F : FI) (todo : List Item) (tm : T SV) (df : List Nat) (cx : Ctx) (K : Res → Tree) (s : St) (r : Out × St), runE env (R (.fr F todo tm df cx) K) s = some r → cx.ok env →
    ∀ (ρ : Pl) (rd : Option Nat) (dfs : List Deferred) (tmps : Array Value) (w : World), RdS ρ F.rd rd → DfS ρ df dfs → TS env ρ tm tmps → tmps.size = F.nt → HS env ρ B s.h w → ∀ cs tail,
      ∃ j tm' df' cx' s' ρ' dfs' tmps' w' todo', runE env (K (.left j tm' df' cx')) s' = some r ∧ cx'.ok env ∧ ρ.le ρ' ∧ DfS ρ' df' dfs' ∧ TS env ρ' tm' tmps' ∧ tmps'.size = F.nt ∧ HS env ρ' B s'.h w' ∧ Below B w w' ∧
        Leaves tail j todo' ∧ Steps P (lone (mkF F.fn rd tmps dfs (todo ++ tail)) cs w) (lone (mkF F.fn rd tmps' dfs' todo') cs w')

/-- a book of calls, each proved -/
def BookOK (P : Program) (env : Env) (Bk : Book) : Prop :=
  ∀ f args cx sm, Bk f args cx = some sm → cx.ok env → (∀ b, b ∈ sm.needs → b.den env = true) → ∀ (ρ : Pl) (vs : List Value) (w : World), RepL env ρ args vs →
    (∀ b l, (b, l) ∈ sm.blks → ∃ r o, ρ b = some (r, o) ∧ BS env ρ (w.heap[r]?) o (.ro l)) →
    (∀ b sig F N, (b, sig, F, N) ∈ sm.arrs → ∃ r o, ρ b = some (r, o) ∧ ((Blk.arr sig F [] N).void env o = false → BS env ρ (w.heap[r]?) o (.arr sig F [] N))) →
    (callFunc f vs.toArray).run P w = .ok (.enter f vs.toArray) w ∧ (∀ b, b ∈ sm.facts → b.den env = true) ∧ (∀ e lo hi, (e, lo, hi) ∈ sm.rngs → lo ≤ e.den env ∧ e.den env ≤ hi) ∧
    Calls P f vs.toArray w fun e w' => ∃ V, e = .returned V ∧ Rep env ρ sm.v V ∧ Below w.heap.size w w'

/-- trees that stand for calls, each proved -/
def GenOK (P : Program) (env : Env) (G : Gen) : Prop :=
  ∀ f args cx g, G f args cx = some g → cx.ok env → ∀ (B : Nat) (K : SV → Ctx → Tree) (s : St) (r : Out × St), runE env (g K) s = some r → ∀ (ρ : Pl) (vs : List Value) (w : World), RepL env ρ args vs → HS env ρ B s.h w → ∀ cs, ∃ v cx' s' ρ' V w' fr',
    runE env (K v cx') s' = some r ∧ cx'.ok env ∧ ρ.le ρ' ∧ Rep env ρ' v V ∧ HS env ρ' B s'.h w' ∧ Below B w w' ∧
    (callFunc f vs.toArray).run P w = .ok (.enter f vs.toArray) w ∧ Steps P (lone (Frame.enter P f vs.toArray .normal) cs w) (lone fr' cs w') ∧ fr'.fn = f ∧ fr'.leaving P w' (.returned V)
theorem noGen_ok (P : Program) (env : Env) : GenOK P env noGen := by intro f args cx g h; cases h

theorem noBook_ok (P : Program) (env : Env) : BookOK P env noBook := by intro f args cx sm h; cases h

section moves
variable {P : Program} {fn : Nat} {rd : Option Nat} {tmps : Array Value} {df : List Deferred} {k : List Item} {cs : List Frame} {w : World}

theorem st_beginRound {l : Nat} {w' : World} (h : (Instr.beginRound l).run P w = .ok () w') :
    step P (lone (mkF fn (some l) tmps df (.beginRound :: k)) cs w) = .next (lone (mkF fn (some l) tmps df k) cs w') :=
  step_lone_go (by simp [stepG, stepG.exec, stepG.apply, mkF, Sem.runT_eq, h, Result.andThen, Frame.finish])

theorem st_endRange {l : Nat} {jump : Option Code} {w' : World} (h : (Instr.endLoop l).run P w = .ok jump w') :
    step P (lone (mkF fn rd tmps df (.endRangeFunc l :: k)) cs w) = .next (lone (mkF fn rd tmps df ((jump.map Item.code).toList ++ k)) cs w') :=
  step_lone_go (by simp [stepG, stepG.exec, mkF, Sem.runT_eq, h, GStep.bare_after])

theorem st_range {g : Operand} {ps : Array Tmp} {assign body : Code} {l : Nat} {mark : List Deferred} {w₁ : World}
    (he : (Instr.enterLoop fn tmps ps assign body rd).run P w = .ok (l, mark) w₁) {f : FuncId} {args : Array Value}
    (hs : (do let d ← Go.resolve (actOf tmps).eval { callee := .value g, args := #[.const (.func (.yield l) #[] #[])], argTypes := #[] } 0; invoke d.target d.args : Sem Next).run P w₁ = .ok (.enter f args) w₁) :
    step P (lone (mkF fn rd tmps df (.code (.rangeFunc g ps assign body) :: k)) cs w) = .next (lone (Frame.enter P f args .normal) (mkF fn rd tmps (mark ++ df) (.inRangeFunc l :: k) :: cs) w₁) :=
  step_lone_go (by
    have hev := eval_mkF' (fn := fn) (rd := rd) (tmps := tmps) (df := mark ++ df) (.inRangeFunc l :: k)
    simp only [mkF] at hev
    simp only [Sem.run_bind] at hs
    simp [stepG, stepG.exec, mkF, Sem.runT_eq, he, GStep.bare_after, stepG.apply, hev, Sem.run_bind, hs])

theorem st_rangeRound {g : Operand} {ps : Array Tmp} {assign body : Code} {l : Nat} {mark : List Deferred} {w₁ : World}
    (he : (Instr.enterLoop fn tmps ps assign body rd).run P w = .ok (l, mark) w₁) {l' f : Nat} {ts : Array Value} {a b : Code}
    (hs : (do let d ← Go.resolve (actOf tmps).eval { callee := .value g, args := #[.const (.func (.yield l) #[] #[])], argTypes := #[] } 0; invoke d.target d.args : Sem Next).run P w₁ = .ok (.round l' f ts a b) w₁) :
    step P (lone (mkF fn rd tmps df (.code (.rangeFunc g ps assign body) :: k)) cs w) = .next (lone (Frame.round l' f ts a b .normal) (mkF fn rd tmps (mark ++ df) (.inRangeFunc l :: k) :: cs) w₁) :=
  step_lone_go (by
    have hev := eval_mkF' (fn := fn) (rd := rd) (tmps := tmps) (df := mark ++ df) (.inRangeFunc l :: k)
    simp only [mkF] at hev
    simp only [Sem.run_bind] at hs
    simp [stepG, stepG.exec, mkF, Sem.runT_eq, he, GStep.bare_after, stepG.apply, hev, Sem.run_bind, hs])

/-- a function's frame leaves -/
theorem st_leave {j : Option Code} (hj : j = none ∨ j = some .ret) {todo : List Item} (hl : Leaves [] j todo) :
    step P (lone (mkF fn none tmps df todo) cs w) = .next (lone { mkF fn none tmps df todo with mode := .returning } cs w) := by
  rcases hj with rfl | rfl
  · rw [show todo = [] from hl]
    exact step_lone_go (by simp [stepG, stepG.exec, mkF])
  · obtain ⟨k, rfl⟩ := hl
    exact step_lone_go (by simp [stepG, stepG.exec, mkF])

/-- a round leaves -/
theorem st_leaveRound {l : Nat} {j : Option Code} {todo : List Item} (hl : Leaves [] j todo) {V : Value} {w' : World} (he : (Instr.endRound l j).run P w = .ok V w') {c : Frame} :
    step P (lone (mkF fn (some l) tmps df todo) (c :: cs) w) = .next (lone (c.finish V) cs w') := by
  cases j with
  | none =>
    rw [show todo = [] from hl]
    exact step_lone_go (by simp [stepG, stepG.exec, mkF, Sem.runT_eq, he, doReturn])
  | some co =>
    cases co <;> first
      | exact hl.elim
      | (obtain ⟨k, rfl⟩ := hl; exact step_lone_go (by simp [stepG, stepG.exec, mkF, Sem.runT_eq, he, doReturn]))
      | (obtain ⟨k, rfl, hx⟩ := hl; rw [List.append_nil]; exact step_lone_go (by simp [stepG, stepG.exec, mkF, hx, Sem.runT_eq, he, doReturn]))
end moves

/-! ### writing an object that is no row of cells -/

theorem putObj_other (w : World) (r k : Nat) (o : Obj) (h : k ≠ r) : (w.putObj r o).heap[k]? = w.heap[k]? := by
  simp [World.putObj, Array.getElem?_setIfInBounds_ne (Ne.symm h)]
theorem putObj_same (w : World) (r : Nat) (o : Obj) (h : r < w.heap.size) : (w.putObj r o).heap[r]? = some o := by
  simp [World.putObj, h]
theorem putObj_size (w : World) (r : Nat) (o : Obj) : (w.putObj r o).heap.size = w.heap.size := by simp [World.putObj]
theorem putObj_below {B : Nat} (w : World) {r : Nat} (o : Obj) (h : B ≤ r) : Below B w (w.putObj r o) :=
  ⟨rfl, rfl, rfl, by rw [putObj_size]; exact Nat.le_refl _, fun k hk => putObj_other w r k o (by omega)⟩

theorem HS.putLoop {env : Env} {ρ : Pl} {B : Nat} {h : T Blk} {w : World} (hs : HS env ρ B h w) {b : Nat} {L L' : LoopB} (hg : h.get b = some (.loop L)) (f : Loop → Loop)
    (hf : ∀ lp, LoopS env ρ L lp → LoopS env ρ L' (f lp)) :
    ∃ r o lp, ρ b = some (r, o) ∧ w.heap[r]? = some (.loop lp) ∧ LoopS env ρ L lp ∧ HS env ρ B (h.set b (.loop L')) (w.putObj r (.loop (f lp))) ∧ Below B w (w.putObj r (.loop (f lp))) := by
  obtain ⟨r, o, e, hbs, hown, _⟩ := hs.at b _ hg (fun _ => rfl)
  obtain ⟨lp, hob, hl⟩ := hbs
  have hlt := hs.lt e hg rfl
  refine ⟨r, o, lp, e, hob, hl, ?_, putObj_below w _ (hown rfl)⟩
  refine hs.put hg rfl rfl e (putObj_size w r _) (fun k hk => putObj_other w r k _ hk) ?_
  rw [putObj_same w r _ hlt]
  exact ⟨_, rfl, hf lp hl⟩

/-! ### small parts -/

def resM (tmps : Array Value) : ResultVar → Sem Value
  | .tmp t => pure (tmps.getD t undef)
  | .cell a t => do loadVar t (← asAddr (tmps.getD a undef))

def oneV : List Value → Value
  | [v] => v
  | l => .tuple l.toArray

section
variable {P : Program} {env : Env} {B : Nat}

theorem TS.setL {ρ : Pl} : ∀ (l : List SV) (i : Nat) (tm : T SV) (tmps : Array Value), TS env ρ tm tmps → (∀ (j : Nat) (s : SV), l[j]? = some s → ∃ v, tmps[i + j]? = some v ∧ Rep env ρ s v) → TS env ρ (Go.SX.setL tm i l) tmps
  | [], i, tm, tmps, ht, _ => ht
  | x :: l, i, tm, tmps, ht, h => by
      refine TS.setL l (i + 1) (tm.set i x) tmps ?_ (fun j s e => by rw [show i + 1 + j = i + (j + 1) by omega]; exact h (j + 1) s (by simpa using e))
      intro t s e
      rw [T.get_set] at e
      split at e
      · rename_i hti
        subst hti
        cases e
        exact h 0 x (by simp)
      · exact ht t s e

theorem setP_ok {F : FI} {ρ : Pl} : ∀ {ps : List Nat} {vs : List SV} {us : List Value} {tm : T SV} {tmps : Array Value} {k : T SV → Tree} {s : St} {r : Out × St}, runE env (setP F tm ps vs k) s = some r → RepL env ρ vs us →
    TS env ρ tm tmps → tmps.size = F.nt → ∃ tm', runE env (k tm') s = some r ∧ TS env ρ tm' ((ps.zip us).foldl (fun t (p : Nat × Value) => t.setIfInBounds p.1 p.2) tmps) ∧
      ((ps.zip us).foldl (fun t (p : Nat × Value) => t.setIfInBounds p.1 p.2) tmps).size = F.nt ∧ ps.length = us.length
  | [], [], us, tm, tmps, k, s, r, h, hr, ht, hn => by rw [show us = [] from hr]; exact ⟨tm, h, ht, hn, rfl⟩
  | [], v :: vs, us, tm, tmps, k, s, r, h, hr, ht, hn => (runE_fail h).elim
  | p :: ps, [], us, tm, tmps, k, s, r, h, hr, ht, hn => (runE_fail h).elim
  | p :: ps, v :: vs, us, tm, tmps, k, s, r, h, hr, ht, hn => by
      obtain ⟨u, us', hu, hus, rfl⟩ := hr
      simp only [setP] at h
      obtain ⟨hd, h⟩ := setTm_ok h
      obtain ⟨ht2, hn2⟩ := ht.putT (F := F) hn hd hu
      obtain ⟨tm', g1, g2, g3, g4⟩ := setP_ok h hus ht2 hn2
      exact ⟨tm', g1, g2, g3, by simp [g4]⟩

theorem takeD_ok {ρ : Pl} {t : Tree} {r : Out × St} : ∀ {df : List Nat} {dfs : List Deferred} {s : St} {w : World} (fr : Frame) (cs : List Frame), runE env (takeD df t) s = some r → DfS ρ df dfs → HS env ρ B s.h w →
    fr.mode ≠ .run → fr.defers = dfs → ∃ s' w', runE env t s' = some r ∧ HS env ρ B s'.h w' ∧ Below B w w' ∧ Steps P (lone fr cs w) (lone { fr with defers := [] } cs w')
  | [], dfs, s, w, fr, cs, h, hd, hs, hm, hf => by
      rw [show dfs = [] from hd] at hf
      refine ⟨s, w, h, hs, Below.refl _ _, ?_⟩
      have : fr = { fr with defers := [] } := by cases fr; simp at hf; subst hf; rfl
      rw [← this]
      exact .refl _ _
  | d :: df, dfs, s, w, fr, cs, h, hd, hs, hm, hf => by
      obtain ⟨rr, oo, ds', e, hd', rfl⟩ := hd
      simp only [takeD] at h
      obtain ⟨b, hg, _, h⟩ := runE_get h
      split at h
      · obtain ⟨u, hu, _, h⟩ := runE_set h
        obtain ⟨r2, o2, e2, hbs, hown, _⟩ := hs.at d _ hg (fun _ => rfl)
        rw [e] at e2
        cases e2
        have hob : w.heap[rr]? = some (.deferred (some [])) := hbs
        have hlt := hs.lt e hg rfl
        have hs2 : HS env ρ B (s.h.set d (.dfr true)) (w.putObj rr (.deferred none)) :=
          hs.put hg rfl rfl e (putObj_size w rr _) (fun k hk => putObj_other w rr k _ hk) (by rw [putObj_same w rr _ hlt]; rfl)
        have hst := step_collected (P := P) (cs := cs) (w := w) hm hf rfl (run_takeDeferred hob)
        obtain ⟨s', w', g1, g2, g3, g4⟩ := takeD_ok { fr with defers := [] ++ ds' } cs h hd' (by rw [St.put_h, St.touch_h]; exact hs2) hm (by simp)
        exact ⟨s', w', g1, g2, (putObj_below w _ (hown rfl)).trans g3, .head hst g4⟩
      · exact (runE_fail h).elim

theorem retVal_ok {ρ : Pl} {tm : T SV} {tmps : Array Value} {w : World} {r : Out × St} (ht : TS env ρ tm tmps) : ∀ {rs : List ResultVar} {cx : Ctx} {k : List SV → Ctx → Tree} {s : St}, runE env (retVal P cx tm rs k) s = some r → cx.ok env → HS env ρ B s.h w →
    ∃ vs us cx' s', runE env (k vs cx') s' = some r ∧ cx'.ok env ∧ s'.h = s.h ∧ RepL env ρ vs us ∧
      (rs.mapM (resM tmps)).run P w = .ok us w
  | [], cx, k, s, h, hc, hs => ⟨[], [], cx, s, h, hc, rfl, rfl, by simp⟩
  | .tmp t :: rs, cx, k, s, h, hc, hs => by
      simp only [retVal] at h
      split at h
      · rename_i v hv
        obtain ⟨V, hV, hr⟩ := ht t v hv
        obtain ⟨vs, us, cx', s', g1, g2, g3, g4, g5⟩ := retVal_ok ht h hc hs
        refine ⟨v :: vs, V :: us, cx', s', g1, g2, g3, ⟨V, us, hr, g4, rfl⟩, ?_⟩
        have hget : tmps.getD t undef = V := by simp [Array.getD_eq_getD_getElem?, hV]
        have h1 : (resM tmps (.tmp t)).run P w = .ok V w := by simp only [resM, Sem.run_pure, hget]
        simp only [List.mapM_cons, Sem.run_bind, Sem.run_pure, Result.andThen_ok, h1, g5]
      · exact (runE_fail h).elim
  | .cell a t :: rs, cx, k, s, h, hc, hs => by
      simp only [retVal] at h
      split at h
      · rename_i A hA
        obtain ⟨V0, hV0, hr0⟩ := ht a _ hA
        obtain ⟨A', hA', rfl⟩ := hr0
        obtain ⟨A0, hA0, rfl⟩ := hA'
        obtain ⟨v, V, cx1, s1, h, hc1, hh, hr, hrun⟩ := loadT_ok (P := P) h hc hs hA0
        obtain ⟨vs, us, cx', s', g1, g2, g3, g4, g5⟩ := retVal_ok (w := w) ht h hc1 (by rw [hh]; exact hs)
        refine ⟨v :: vs, V :: us, cx', s', g1, g2, g3.trans hh, ⟨V, us, hr, g4, rfl⟩, ?_⟩
        have hget : tmps.getD a undef = .pointer (some A0) := by simp [Array.getD_eq_getD_getElem?, hV0]
        have h1 : (resM tmps (.cell a t)).run P w = .ok V w := by simp only [resM, Sem.run_bind, Sem.run_pure, Result.andThen_ok, hget, asAddr, hrun]
        simp only [List.mapM_cons, Sem.run_bind, Sem.run_pure, Result.andThen_ok, h1, g5]
      · exact (runE_fail h).elim

theorem results_run {fn : Func} {tmps : Array Value} {us : List Value} {w : World} (h : (fn.results.toList.mapM (resM tmps)).run P w = .ok us w) : (results fn tmps).run P w = .ok (oneV us) w := by
  have e : results fn tmps = (do let vs ← fn.results.mapM (resM tmps); pure (if h : vs.size = 1 then vs[0] else .tuple vs) : Sem Value) := by
    unfold results
    have : (fun x => resM tmps x) = (fun (x : ResultVar) => match x with
        | .tmp t => (pure (tmps.getD t undef) : Sem Value)
        | .cell a t => do loadVar t (← asAddr (tmps.getD a undef))) := by funext x; cases x <;> rfl
    rw [show resM tmps = _ from this]
    rfl
  rw [e, Array.mapM_eq_mapM_toList]
  simp only [Sem.run_bind, Sem.run_map]
  rw [h]
  simp only [Result.andThen_ok, Sem.run_pure]
  congr 1
  match us with
  | [] => rfl
  | [v] => rfl
  | a :: b :: l => simp [oneV]

theorem oneOf_rep {ρ : Pl} : ∀ {vs : List SV} {us : List Value}, RepL env ρ vs us → Rep env ρ (oneOf vs) (oneV us)
  | [], us, h => by rw [show us = [] from h]; exact ⟨[], rfl, rfl⟩
  | [v], us, h => by
    obtain ⟨u, us', hu, hus, rfl⟩ := h
    rw [show us' = [] from hus]
    exact hu
  | a :: b :: l, us, h => by
    obtain ⟨u, us', hu, hus, rfl⟩ := h
    obtain ⟨u2, us2, hu2, hus2, rfl⟩ := hus
    exact ⟨u :: u2 :: us2, ⟨u, _, hu, ⟨u2, us2, hu2, hus2, rfl⟩, rfl⟩, rfl⟩

theorem needAll_ok {k : Ctx → Tree} {s : St} {r : Out × St} : ∀ {l : List BE} {cx : Ctx}, runE env (needAll cx k l) s = some r → cx.ok env → (∀ b, b ∈ l → b.den env = true) ∧ ∃ cx', cx'.ok env ∧ runE env (k cx') s = some r
  | [], cx, h, hc => ⟨by simp, cx, hc, h⟩
  | b :: l, cx, h, hc => by
      simp only [needAll] at h
      obtain ⟨h1, cx1, hc1, h⟩ := need_ok h hc
      obtain ⟨h2, cx', hc', h⟩ := needAll_ok h hc1
      refine ⟨fun x hx => ?_, cx', hc', h⟩
      rcases List.mem_cons.1 hx with rfl | hx
      · exact h1
      · exact h2 x hx

/-- an object whose cells are known may be read -/
theorem BS.ro_of {env : Env} {ρ : Pl} {ob : Option Obj} {o : Nat} {l : List SV} : (∀ t, BS env ρ ob o (.cells l t) → BS env ρ ob o (.ro l)) := by
  rintro t ⟨rfl, cs, hr, e⟩
  exact ⟨_, t, (0, 0), cs, e, hr, fun i v h => by simpa using h⟩

theorem needBlks_ok {ρ : Pl} {w : World} {t : Tree} {r : Out × St} : ∀ {l : List (Nat × List SV)} {s : St}, runE env (needBlks t l) s = some r → HS env ρ B s.h w →
    (∀ b x, (b, x) ∈ l → ∃ r o, (∃ o', ρ b = some (r, o')) ∧ BS env ρ (w.heap[r]?) o (.ro x) ∧ ρ b = some (r, o)) ∧ ∃ s', s'.h = s.h ∧ runE env t s' = some r
  | [], s, h, hs => ⟨fun b x hm => by simp at hm, s, rfl, h⟩
  | (b, x) :: l, s, h, hs => by
      simp only [needBlks] at h
      obtain ⟨blk, hg, _, h⟩ := runE_get h
      obtain ⟨r0, o, e, hbs0⟩ := hs.blk _ _ hg
      have key : ∀ l', BS env ρ (w.heap[r0]?) o (.ro l') → runE env (bif SV.sameL l' x then needBlks t l else .fail "memo block") (s.touch b) = some r →
          (∀ b' x', (b', x') ∈ (b, x) :: l → ∃ r o, (∃ o', ρ b' = some (r, o')) ∧ BS env ρ (w.heap[r]?) o (.ro x') ∧ ρ b' = some (r, o)) ∧ ∃ s', s'.h = s.h ∧ runE env t s' = some r := by
        intro l' hro h
        cases hsame : SV.sameL l' x with
        | false => rw [hsame] at h; exact (runE_fail h).elim
        | true =>
          rw [hsame, cond_true] at h
          rw [SV.sameL_eq hsame] at hro
          obtain ⟨h1, s', h2, h3⟩ := needBlks_ok h (by rw [St.touch_h]; exact hs)
          refine ⟨?_, s', by rw [h2, St.touch_h], h3⟩
          intro b' x' hm
          rcases List.mem_cons.1 hm with hm | hm
          · cases hm
            exact ⟨r0, o, ⟨o, e⟩, hro, e⟩
          · exact h1 b' x' hm
      split at h
      · exact key _ (BS.ro_of _ (hbs0 rfl).1) h
      · exact key _ (hbs0 rfl).1 h
      · exact (runE_fail h).elim

theorem assumeAll_ok : ∀ {l : List BE} {cx : Ctx}, cx.ok env → (∀ b, b ∈ l → b.den env = true) → (assumeAll cx l).ok env
  | [], cx, hc, _ => hc
  | b :: l, cx, hc, h => by
      simp only [assumeAll]
      exact assumeAll_ok (assume_ok hc (h b (by simp))) (fun x hx => h x (by simp [hx]))

theorem entered_ok {f : Nat} {fn : Func} {c : Code} (h : entered P f = some (fn, c)) (args : Array Value) (w : World) :
    P.funcs[f]? = some fn ∧ fn.body = some c ∧ (callFunc f args).run P w = .ok (.enter f args) w := by
  unfold entered at h
  split at h
  · rename_i fn' hf
    split at h
    · cases h
    · rename_i hname
      split at h
      · rename_i c' hb
        cases h
        refine ⟨hf, hb, ?_⟩
        simp only [callFunc, Sem.run_bind, run_program, Result.andThen_ok, hf]
        rw [if_neg hname, hb]
        simp
      · cases h
  · cases h
end

end Go.SX
