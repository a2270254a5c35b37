/- Frames: one step of the machine each; operations of a region in the text's order. -/
import Derived.Test.YtjgkcgkhcdeadaaSw7
namespace Go.SX
open Go Go.RowKit
set_option linter.unusedVariables false
set_option linter.unusedSimpArgs false
set_option linter.unusedSectionVars false

/-- a running frame of the kind that the reckoner knows -/
def mkF (fn : Nat) (rd : Option Nat) (tmps : Array Value) (df : List Deferred) (todo : List Item) : Frame :=
  { fn := fn, tmps := tmps, todo := todo, defers := df, mode := .run, kind := .normal, roundOf := rd }

section moves
variable {P : Program} {fn : Nat} {rd : Option Nat} {tmps : Array Value} {df : List Deferred} {k : List Item} {cs : List Frame} {w : World}

def actOf (tmps : Array Value) : Act := ⟨tmps, []⟩

theorem eval_mkF (todo : List Item) (x : Operand) : (mkF fn rd tmps df todo).eval x = (actOf tmps).eval x := by cases x <;> rfl
theorem eval_mkF' (todo : List Item) : (mkF fn rd tmps df todo).eval = (actOf tmps).eval := funext (eval_mkF todo)

theorem st_skip : step P (lone (mkF fn rd tmps df (.code .skip :: k)) cs w) = .next (lone (mkF fn rd tmps df k) cs w) :=
  step_lone_go (by simp [stepG, stepG.exec, mkF])
theorem st_label {l : Nat} : step P (lone (mkF fn rd tmps df (.code (.label l) :: k)) cs w) = .next (lone (mkF fn rd tmps df k) cs w) :=
  step_lone_go (by simp [stepG, stepG.exec, mkF])
theorem st_inBlock {l : Nat} : step P (lone (mkF fn rd tmps df (.inBlock l :: k)) cs w) = .next (lone (mkF fn rd tmps df k) cs w) :=
  step_lone_go (by simp [stepG, stepG.exec, mkF])
theorem st_inScope {c : Code} : step P (lone (mkF fn rd tmps df (.inScope c :: k)) cs w) = .next (lone (mkF fn rd tmps df k) cs w) :=
  step_lone_go (by simp [stepG, stepG.exec, mkF])
theorem st_seq {x y : Code} : step P (lone (mkF fn rd tmps df (.code (.seq x y) :: k)) cs w) = .next (lone (mkF fn rd tmps df (.code x :: .code y :: k)) cs w) :=
  step_lone_go (by simp [stepG, stepG.exec, mkF])
theorem st_cond {c : Operand} {x y : Code} {t : Bool} (h : (actOf tmps).eval c = .bool t) :
    step P (lone (mkF fn rd tmps df (.code (.cond c x y) :: k)) cs w) = .next (lone (mkF fn rd tmps df (.code (if t then x else y) :: k)) cs w) :=
  step_lone_go (by
    have := eval_mkF (fn := fn) (rd := rd) (tmps := tmps) (df := df) (.code (.cond c x y) :: k) c
    simp only [mkF] at this
    simp [stepG, stepG.exec, mkF, this, h])
theorem st_block {id : Nat} {c : Code} : step P (lone (mkF fn rd tmps df (.code (.block id c) :: k)) cs w) = .next (lone (mkF fn rd tmps df (.code c :: .inBlock id :: k)) cs w) :=
  step_lone_go (by simp [stepG, stepG.exec, mkF])
theorem st_loop {c : Code} : step P (lone (mkF fn rd tmps df (.code (.loop c) :: k)) cs w) = .next (lone (mkF fn rd tmps df (.code c :: .inLoop c :: k)) cs w) :=
  step_lone_go (by simp [stepG, stepG.exec, mkF])
theorem st_inLoop {c : Code} : step P (lone (mkF fn rd tmps df (.inLoop c :: k)) cs w) = .next (lone (mkF fn rd tmps df (.code c :: .inLoop c :: k)) cs w) :=
  step_lone_go (by simp [stepG, stepG.exec, mkF])
theorem st_scope {c : Code} : step P (lone (mkF fn rd tmps df (.code (.scope c) :: k)) cs w) = .next (lone (mkF fn rd tmps df (.code c :: .inScope c :: k)) cs w) :=
  step_lone_go (by simp [stepG, stepG.exec, mkF])
theorem st_exit {id : Nat} {k' : List Item} (h : exitTo id k = some k') : step P (lone (mkF fn rd tmps df (.code (.exit id) :: k)) cs w) = .next (lone (mkF fn rd tmps df k') cs w) :=
  step_lone_go (by simp [stepG, stepG.exec, mkF, h])
theorem st_region {id : Nat} {ops : Array Oper} : step P (lone (mkF fn rd tmps df (.code (.region id ops false) :: k)) cs w) = .next (lone (mkF fn rd tmps df (.inRegion ops (List.range ops.size) :: k)) cs w) :=
  step_lone_go (by simp [stepG, stepG.exec, mkF])
theorem st_draw {id : Nat} {ops : Array Oper} : step P (lone (mkF fn rd tmps df (.code (.region id ops true) :: k)) cs w) =
    .next (lone (mkF fn rd tmps df (.inRegion ops (Region.schedule (P.follows .mixedOrders) ops (w.tape w.drawn (.order fn id))) :: k)) cs { w with drawn := w.drawn + 1 }) :=
  step_lone_go (by simp [stepG, stepG.exec, mkF, choose, Sem.run, Question.forced, Question.cut])
theorem st_regionEnd {ops : Array Oper} : step P (lone (mkF fn rd tmps df (.inRegion ops [] :: k)) cs w) = .next (lone (mkF fn rd tmps df k) cs w) :=
  step_lone_go (by simp [stepG, stepG.exec, mkF])

def putT (tmps : Array Value) (dst : Option Tmp) (v : Value) : Array Value :=
  match dst with
  | some d => tmps.setIfInBounds d v
  | none => tmps

theorem finish_mkF (ops : Array Oper) (i : Nat) (rest : List Nat) (v : Value) :
    (mkF fn rd tmps df (.inRegion ops (i :: rest) :: k)).finish v = mkF fn rd (putT tmps ((ops[i]?).bind (·.dst)) v) df (.inRegion ops rest :: k) := by
  cases h : (ops[i]?).bind (·.dst) <;> simp [Frame.finish, mkF, putT, h]

theorem st_opSkip {ops : Array Oper} {i : Nat} {rest : List Nat} {o : Oper} (ho : ops[i]? = some o) (hw : Region.wanted o (yielded ops tmps) = false) :
    step P (lone (mkF fn rd tmps df (.inRegion ops (i :: rest) :: k)) cs w) = .next (lone ((mkF fn rd tmps df (.inRegion ops (i :: rest) :: k)).finish undef) cs w) :=
  step_lone_go (by simp [stepG, stepG.exec, mkF, ho, hw])

def notDefer (o : Oper) : Prop := ∀ c, o.op ≠ .defer c

theorem stG_op {ops : Array Oper} {i : Nat} {rest : List Nat} {o : Oper} (ho : ops[i]? = some o) (hw : Region.wanted o (yielded ops tmps) = true) (hnd : notDefer o) :
    stepG P true { frame := mkF fn rd tmps df (.inRegion ops (i :: rest) :: k), callers := cs, status := .running, dying := none } w =
      stepG.apply P true (mkF fn rd tmps df (.inRegion ops (i :: rest) :: k)) cs none (execOp (actOf tmps).eval o) w := by
  have he := eval_mkF' (fn := fn) (rd := rd) (tmps := tmps) (df := df) (.inRegion ops (i :: rest) :: k)
  simp only [mkF] at he
  cases rd with
  | none => simp [stepG, stepG.exec, stepG.oper, Frame.oper?, mkF, ho, hw, he]
  | some l =>
    have : ∀ (x y : GStep), (match (some l : Option Nat), o.op with
        | some l, .defer c => x
        | _, _ => y) = y := by
      intro x y
      cases hop : o.op <;> first | rfl | exact absurd hop (hnd _)
    simp [stepG, stepG.exec, stepG.oper, Frame.oper?, mkF, ho, hw, he]
    split
    · rename_i l' c hl hop
      exact absurd hop (hnd c)
    · rfl

theorem st_opVal {ops : Array Oper} {i : Nat} {rest : List Nat} {o : Oper} (ho : ops[i]? = some o) (hw : Region.wanted o (yielded ops tmps) = true) (hnd : notDefer o) {V : Value} {w' : World}
    (hr : (execOp (actOf tmps).eval o).run P w = .ok (.value V) w' ∨ ((execOp (actOf tmps).eval o).run P w = .ok .skip w' ∧ V = undef)) :
    step P (lone (mkF fn rd tmps df (.inRegion ops (i :: rest) :: k)) cs w) = .next (lone ((mkF fn rd tmps df (.inRegion ops (i :: rest) :: k)).finish V) cs w') :=
  step_lone_go (by
    rw [stG_op ho hw hnd]
    rcases hr with hr | ⟨hr, rfl⟩ <;> simp [stepG.apply, hr])

theorem st_opEnter {ops : Array Oper} {i : Nat} {rest : List Nat} {o : Oper} (ho : ops[i]? = some o) (hw : Region.wanted o (yielded ops tmps) = true) (hnd : notDefer o) {f : Nat} {args : Array Value} {w' : World}
    (hr : (execOp (actOf tmps).eval o).run P w = .ok (.enter f args) w') :
    step P (lone (mkF fn rd tmps df (.inRegion ops (i :: rest) :: k)) cs w) = .next (lone (Frame.enter P f args .normal) (mkF fn rd tmps df (.inRegion ops (i :: rest) :: k) :: cs) w') :=
  step_lone_go (by
    rw [stG_op ho hw hnd]
    simp [stepG.apply, hr, mkF])

theorem st_opRound {ops : Array Oper} {i : Nat} {rest : List Nat} {o : Oper} (ho : ops[i]? = some o) (hw : Region.wanted o (yielded ops tmps) = true) (hnd : notDefer o) {l f : Nat} {ts : Array Value} {assign body : Code} {w' : World}
    (hr : (execOp (actOf tmps).eval o).run P w = .ok (.round l f ts assign body) w') :
    step P (lone (mkF fn rd tmps df (.inRegion ops (i :: rest) :: k)) cs w) = .next (lone (Frame.round l f ts assign body .normal) (mkF fn rd tmps df (.inRegion ops (i :: rest) :: k) :: cs) w') :=
  step_lone_go (by
    rw [stG_op ho hw hnd]
    simp [stepG.apply, hr, mkF])
end moves

/-! ### the frame's slots -/

theorem TS.put {env : Env} {ρ : Pl} {tm : T SV} {tmps : Array Value} (ht : TS env ρ tm tmps) {d : Nat} (hd : d < tmps.size) {v : SV} {V : Value} (hv : Rep env ρ v V) :
    TS env ρ (tm.set d v) (tmps.setIfInBounds d V) := by
  intro t s h
  rw [T.get_set] at h
  split at h
  · rename_i htd
    subst htd
    cases h
    exact ⟨V, by simp [hd], hv⟩
  · rename_i htd
    obtain ⟨u, hu, hr⟩ := ht t s h
    exact ⟨u, by rw [Array.getElem?_setIfInBounds_ne (Ne.symm htd)]; exact hu, hr⟩

/-- the same slot said otherwise -/
theorem TS.again {env : Env} {ρ : Pl} {tm : T SV} {tmps : Array Value} (ht : TS env ρ tm tmps) {d : Nat} {v v' : SV} (hd : tm.get d = some v) (hv : ∀ V, Rep env ρ v V → Rep env ρ v' V) : TS env ρ (tm.set d v') tmps := by
  intro t s h
  rw [T.get_set] at h
  split at h
  · rename_i htd
    subst htd
    cases h
    obtain ⟨u, hu, hr⟩ := ht _ _ hd
    exact ⟨u, hu, hv u hr⟩
  · exact ht t s h

def setTM (tm : T SV) (dst : Option Tmp) (v : SV) : T SV :=
  match dst with
  | some d => tm.set d v
  | none => tm

theorem setTm_ok {env : Env} {F : FI} {tm : T SV} {dst : Option Tmp} {v : SV} {k : T SV → Tree} {s : St} {r : Out × St} (h : runE env (setTm F tm dst v k) s = some r) :
    (∀ d, dst = some d → d < F.nt) ∧ runE env (k (setTM tm dst v)) s = some r := by
  unfold setTm at h
  cases dst with
  | none => exact ⟨by simp, h⟩
  | some d =>
    simp only [blt_dec] at h
    by_cases hd : d < F.nt
    · simp only [hd, decide_true, cond_true] at h
      exact ⟨fun d' e => by cases e; exact hd, h⟩
    · simp only [hd, decide_false, cond_false] at h
      exact (runE_fail h).elim

theorem TS.putT {env : Env} {ρ : Pl} {F : FI} {tm : T SV} {tmps : Array Value} (ht : TS env ρ tm tmps) (hn : tmps.size = F.nt) {dst : Option Tmp} (hd : ∀ d, dst = some d → d < F.nt) {v : SV} {V : Value} (hv : Rep env ρ v V) :
    TS env ρ (setTM tm dst v) (Go.SX.putT tmps dst V) ∧ (Go.SX.putT tmps dst V).size = F.nt := by
  cases dst with
  | none => exact ⟨ht, hn⟩
  | some d => exact ⟨ht.put (by rw [hn]; exact hd d rfl) hv, by simp [Go.SX.putT, hn]⟩

/-! ### is an operation wanted? -/

theorem wantS_ok {env : Env} {F : FI} {ops : Array Oper} {tm : T SV} {cx : Ctx} {o : Oper} {k : Bool → T SV → Ctx → Tree} {s : St} {r : Out × St}
    (h : runE env (wantS F ops tm cx o k) s = some r) (hc : cx.ok env) :
    ∃ v tm' cx', runE env (k v tm' cx') s = some r ∧ cx'.ok env ∧
      ((o.guard = none ∧ v = true ∧ tm' = tm) ∨
       (∃ j want t, o.guard = some (j, want) ∧ (ops[j]?).bind (·.dst) = some t ∧
         ((∃ b, tm.get t = some (.bool b) ∧ v = (b.den env == want) ∧ tm' = tm.set t (.bool (.lit (b.den env)))) ∨ (tm.get t = some (.tuple []) ∧ v = false ∧ tm' = tm)))) := by
  unfold wantS at h
  split at h
  · rename_i hg
    exact ⟨true, tm, cx, h, hc, .inl ⟨hg, rfl, rfl⟩⟩
  · rename_i j want hg
    split at h
    · exact (runE_fail h).elim
    · rename_i t ht
      split at h
      · rename_i b hb
        obtain ⟨cx', hc', h⟩ := branch_ok h hc
        obtain ⟨_, h⟩ := setTm_ok h
        exact ⟨_, _, cx', h, hc', .inr ⟨j, want, t, hg, ht, .inl ⟨b, hb, rfl, rfl⟩⟩⟩
      · rename_i hb
        exact ⟨_, _, cx, h, hc, .inr ⟨j, want, t, hg, ht, .inr ⟨hb, rfl, rfl⟩⟩⟩
      · exact (runE_fail h).elim

theorem wanted_of {env : Env} {ρ : Pl} {ops : Array Oper} {tmps : Array Value} {o : Oper} {j : Nat} {want : Bool} {t : Nat} {v : Bool} (hg : o.guard = some (j, want)) (ht : (ops[j]?).bind (·.dst) = some t) {V : Value}
    (hV : tmps[t]? = some V) (hv : (∃ b : Bool, V = .bool b ∧ v = (b == want)) ∨ (V = .tuple #[] ∧ v = false)) : Region.wanted o (yielded ops tmps) = v := by
  unfold Region.wanted
  rw [hg]
  show (yielded ops tmps j == some want) = v
  have hy : yielded ops tmps j = (match (some V : Option Value) with | some (.bool b) => some b | _ => none) := by
    unfold yielded
    rw [← hV]
    congr 1
    simp only [ht, Option.bind_some]
  rw [hy]
  rcases hv with ⟨b, rfl, rfl⟩ | ⟨rfl, rfl⟩
  · cases b <;> cases want <;> rfl
  · cases want <;> rfl

/-! ### what is said of calls -/

structure CallOK (P : Program) (env : Env) (B : Nat) (R : Run) : Prop where
  call : ∀ (f : Nat) (args : List SV) (cx : Ctx) (K : Res → Tree) (s : St) (r : Out × St), runE env (R (.call f args cx) K) s = some r → cx.ok env →
    ∀ (ρ : Pl) (vs : List Value) (w : World), RepL env ρ args vs → HS env ρ B s.h w → ∀ cs, ∃ v cx' s' ρ' V w' fr',
      runE env (K (.val v cx')) s' = some r ∧ cx'.ok env ∧ ρ.le ρ' ∧ Rep env ρ' v V ∧ HS env ρ' B s'.h w' ∧ Below B w w' ∧
      (callFunc f vs.toArray).run P w = .ok (.enter f vs.toArray) w ∧ Steps P (lone (Frame.enter P f vs.toArray .normal) cs w) (lone fr' cs w') ∧ fr'.fn = f ∧ fr'.leaving P w' (.returned V)
  yield : ∀ (l : Nat) (args : List SV) (cx : Ctx) (K : Res → Tree) (s : St) (r : Out × St), runE env (R (.yield l args cx) K) s = some r → cx.ok env →
    ∀ (ρ : Pl) (vs : List Value) (w : World) (rl ol : Nat), ρ l = some (rl, ol) → RepL env ρ args vs → HS env ρ B s.h w → ∀ (c : Frame) (cs : List Frame), ∃ v cx' s' ρ' V w' f ts assign body,
      runE env (K (.val v cx')) s' = some r ∧ cx'.ok env ∧ ρ.le ρ' ∧ Rep env ρ' v V ∧ HS env ρ' B s'.h w' ∧ Below B w w' ∧
      (Instr.yield rl vs.toArray).run P w = .ok (.round rl f ts assign body) w ∧ Steps P (lone (Frame.round rl f ts assign body .normal) (c :: cs) w) (lone (c.finish V) cs w')

/-- a call of a function value: c is the frame that waits for the value -/
theorem callV_ok {P : Program} {env : Env} {B : Nat} {R : Run} (hR : CallOK P env B R) {f : SV} {args : List SV} {cx : Ctx} {k : SV → Ctx → Tree} {s : St} {r : Out × St}
    (h : runE env (callV R f args cx k) s = some r) (hc : cx.ok env) {ρ : Pl} {w : World} {Fv : Value} {vs : List Value} (hf : Rep env ρ f Fv) (ha : RepL env ρ args vs) (hs : HS env ρ B s.h w)
    {sem : Sem Next} (hsem : ∀ g fs cp, Fv = .func g fs cp → sem.run P w = (invoke (.fn g cp) (fs ++ vs.toArray)).run P w) {m0 : Machine} (c : Frame) (cs : List Frame)
    (he : ∀ g as, sem.run P w = .ok (.enter g as) w → step P m0 = .next (lone (Frame.enter P g as .normal) (c :: cs) w))
    (hro : ∀ l g ts assign body, sem.run P w = .ok (.round l g ts assign body) w → step P m0 = .next (lone (Frame.round l g ts assign body .normal) (c :: cs) w)) :
    ∃ v cx' s' ρ' V w', runE env (k v cx') s' = some r ∧ cx'.ok env ∧ ρ.le ρ' ∧ Rep env ρ' v V ∧ HS env ρ' B s'.h w' ∧ Below B w w' ∧ Steps P m0 (lone (c.finish V) cs w') := by
  unfold callV at h
  split at h
  · rename_i g first cap
    obtain ⟨gg, fs, cp, hgg, h1, h2, rfl⟩ := hf
    rw [show gg = .func g from hgg] at hsem
    have hall : RepL env ρ (first ++ args ++ cap) (fs ++ vs ++ cp) := (h1.append ha).append h2
    obtain ⟨v, cx', s', ρ', V, w', fr', hk, hc', hle, hv, hs', hb, hcall, hsteps, hfn, hleave⟩ := hR.call g _ cx _ s r h hc ρ _ w hall hs (c :: cs)
    refine ⟨v, cx', s', ρ', V, w', hk, hc', hle, hv, hs', hb, ?_⟩
    have hrun : sem.run P w = .ok (.enter g (fs ++ vs ++ cp).toArray) w := by
      rw [hsem _ _ _ rfl]
      simp only [invoke]
      rw [show (fs.toArray ++ vs.toArray ++ cp.toArray) = (fs ++ vs ++ cp).toArray by simp]
      exact hcall
    exact .head (he _ _ hrun) (hsteps.trans (.one (step_leave_returned hleave)))
  · rename_i l first cap
    obtain ⟨gg, fs, cp, hgg, h1, h2, rfl⟩ := hf
    obtain ⟨rl, ol, hρ, rfl⟩ := hgg
    have hall : RepL env ρ (first ++ args) (fs ++ vs) := h1.append ha
    obtain ⟨v, cx', s', ρ', V, w', g, ts, assign, body, hk, hc', hle, hv, hs', hb, hcall, hsteps⟩ := hR.yield l _ cx _ s r h hc ρ _ w rl ol hρ hall hs c cs
    refine ⟨v, cx', s', ρ', V, w', hk, hc', hle, hv, hs', hb, ?_⟩
    have hrun : sem.run P w = .ok (.round rl g ts assign body) w := by
      rw [hsem _ _ _ rfl]
      simp only [invoke]
      rw [show (fs.toArray ++ vs.toArray) = (fs ++ vs).toArray by simp]
      exact hcall
    exact .head (hro _ _ _ _ _ hrun) hsteps
  · exact (runE_fail h).elim

/-- one operation in its frame -/
theorem doOp_ok {P : Program} {env : Env} {B : Nat} {R : Run} (hR : CallOK P env B R) {F : FI} {tm : T SV} {cx : Ctx} {o : Oper} {kk : SV → Ctx → Tree} {s : St} {r : Out × St}
    (h : runE env (doOp P R F tm cx o kk) s = some r) (hc : cx.ok env) {ρ : Pl} {w : World} (hs : HS env ρ B s.h w) {fn : Nat} {rd : Option Nat} {tmps : Array Value} {df : List Deferred}
    {ops : Array Oper} {i : Nat} {rest : List Nat} {k : List Item} (ho : ops[i]? = some o) (hw : Region.wanted o (yielded ops tmps) = true)
    (hev : EvOK env ρ tm (actOf tmps).eval o.op.operands.toList) (cs : List Frame) :
    ∃ v cx' s' ρ' V w', runE env (kk v cx') s' = some r ∧ cx'.ok env ∧ ρ.le ρ' ∧ Rep env ρ' v V ∧ HS env ρ' B s'.h w' ∧ Below B w w' ∧
      Steps P (lone (mkF fn rd tmps df (.inRegion ops (i :: rest) :: k)) cs w) (lone (mkF fn rd (putT tmps o.dst V) df (.inRegion ops rest :: k)) cs w') := by
  have hfin : ∀ V, (mkF fn rd tmps df (.inRegion ops (i :: rest) :: k)).finish V = mkF fn rd (putT tmps o.dst V) df (.inRegion ops rest :: k) := by
    intro V; rw [finish_mkF, ho]; rfl
  unfold doOp at h
  split at h
  · rename_i f args argTypes hop
    have hnd : notDefer o := fun c e => by rw [hop] at e; cases e
    split at h
    · rename_i fv as hf ha
      have hF : Rep env ρ fv ((actOf tmps).eval f) := hev f (by rw [hop]; simp [Op.operands, Call.operands]) _ hf
      have hA : RepL env ρ as (args.toList.map (actOf tmps).eval) := evalL_ok (fun x hx => hev x (by rw [hop]; simp [Op.operands, Call.operands] at hx ⊢; exact .inr hx)) ha
      obtain ⟨v, cx', s', ρ', V, w', hk, hc', hle, hv, hs', hb, hsteps⟩ := callV_ok hR h hc hF hA hs (sem := execOp (actOf tmps).eval o) (by
          intro g fs cp hg
          simp only [execOp, hop, Go.resolve, Deferred.ofValue, hg, Sem.run_bind, Sem.run_pure, Result.andThen_ok]
          congr 2
          rw [← Array.toList_map, Array.toArray_toList])
        (m0 := lone (mkF fn rd tmps df (.inRegion ops (i :: rest) :: k)) cs w) (mkF fn rd tmps df (.inRegion ops (i :: rest) :: k)) cs
        (fun g as' hr => st_opEnter ho hw hnd hr) (fun l g ts a b hr => st_opRound ho hw hnd hr)
      refine ⟨v, cx', s', ρ', V, w', hk, hc', hle, hv, hs', hb, ?_⟩
      rw [← hfin]
      exact hsteps
    · exact (runE_fail h).elim
  · rename_i hno
    have hnd : notDefer o := by
      intro c e
      obtain ⟨d, op, t, p, a, g⟩ := o
      simp only at e
      subst e
      simp only [aop] at h
      exact runE_fail h
    obtain ⟨v, cx', s', ρ', V, w', hk, hc', hle, hv, hs', hb, hrun⟩ := aop_ok hc hs hev h
    refine ⟨v, cx', s', ρ', V, w', hk, hc', hle, hv, hs', hb, ?_⟩
    rw [← hfin]
    exact .one (st_opVal ho hw hnd hrun)

theorem TS.evOK' {env : Env} {ρ : Pl} {tm : T SV} {tmps : Array Value} (ht : TS env ρ tm tmps) (l : List Operand) : EvOK env ρ tm (actOf tmps).eval l := TS.evOK (a := actOf tmps) ht l

theorem wanted_ok {env : Env} {ρ : Pl} {ops : Array Oper} {tm tm' : T SV} {tmps : Array Value} {o : Oper} {v : Bool} (ht : TS env ρ tm tmps)
    (hw : (o.guard = none ∧ v = true ∧ tm' = tm) ∨
       (∃ j want t, o.guard = some (j, want) ∧ (ops[j]?).bind (·.dst) = some t ∧
         ((∃ b, tm.get t = some (.bool b) ∧ v = (b.den env == want) ∧ tm' = tm.set t (.bool (.lit (b.den env)))) ∨ (tm.get t = some (.tuple []) ∧ v = false ∧ tm' = tm)))) :
    Region.wanted o (yielded ops tmps) = v ∧ TS env ρ tm' tmps := by
  rcases hw with ⟨hg, rfl, rfl⟩ | ⟨j, want, t, hg, hd, ⟨b, hb, rfl, rfl⟩ | ⟨hb, rfl, rfl⟩⟩
  · exact ⟨by simp [Region.wanted, hg], ht⟩
  · obtain ⟨V, hV, hr⟩ := ht t _ hb
    refine ⟨wanted_of (env := env) (ρ := ρ) hg hd hV (.inl ⟨_, hr, rfl⟩), ht.again hb fun V hV => ?_⟩
    exact hV
  · obtain ⟨V, hV, hr⟩ := ht t _ hb
    obtain ⟨vs, hvs, rfl⟩ := hr
    rw [show vs = [] from hvs] at hV
    exact ⟨wanted_of (env := env) (ρ := ρ) hg hd hV (.inr ⟨rfl, rfl⟩), ht⟩

theorem mem_dsts {ops : Array Oper} {j : Nat} {t : Nat} (h : (ops[j]?).bind (·.dst) = some t) : t ∈ dstsOf ops := by
  obtain ⟨o, h1, h2⟩ := Option.bind_eq_some_iff.1 h
  exact List.mem_filterMap.2 ⟨o, by simpa using Array.mem_of_getElem? h1, h2⟩
/-- an operation turns no slot but those that its region fills -/
theorem set_others {env : Env} {ops : Array Oper} {tm tm1 : T SV} {o : Oper} {i : Nat} {v : Bool} {V : SV} (ho : ops[i]? = some o)
    (hw : (o.guard = none ∧ v = true ∧ tm1 = tm) ∨
       (∃ j want t, o.guard = some (j, want) ∧ (ops[j]?).bind (·.dst) = some t ∧
         ((∃ b, tm.get t = some (.bool b) ∧ v = (b.den env == want) ∧ tm1 = tm.set t (.bool (.lit (b.den env)))) ∨ (tm.get t = some (.tuple []) ∧ v = false ∧ tm1 = tm)))) {d : Nat} (hd : d ∉ dstsOf ops) :
    (setTM tm1 o.dst V).get d = tm.get d := by
  have h1 : (setTM tm1 o.dst V).get d = tm1.get d := by
    cases hdst : o.dst with
    | none => rfl
    | some t =>
      simp only [setTM, T.get_set]
      rw [if_neg]
      rintro rfl
      exact hd (mem_dsts (j := i) (by rw [ho]; exact hdst))
  rw [h1]
  rcases hw with ⟨_, _, rfl⟩ | ⟨j, want, t, _, ht, ⟨b, _, _, rfl⟩ | ⟨_, _, rfl⟩⟩
  · rfl
  · rw [T.get_set, if_neg]
    rintro rfl
    exact hd (mem_dsts ht)
  · rfl

/-- a region whose order stands -/
theorem runOps_ok {P : Program} {env : Env} {B : Nat} {R : Run} (hR : CallOK P env B R) {F : FI} {ops : Array Oper} {kk : T SV → Ctx → Tree} {r : Out × St} {fn : Nat} {rd : Option Nat} {df : List Deferred} {k : List Item} (cs : List Frame) :
    ∀ (l : List Oper) (i : Nat) (tm : T SV) (cx : Ctx) (s : St) (ρ : Pl) (w : World) (tmps : Array Value), ops.toList.drop i = l → runE env (runOps P R F ops kk l tm cx) s = some r → cx.ok env → HS env ρ B s.h w →
      TS env ρ tm tmps → tmps.size = F.nt →
      ∃ tm' cx' s' ρ' w' tmps', runE env (kk tm' cx') s' = some r ∧ cx'.ok env ∧ ρ.le ρ' ∧ HS env ρ' B s'.h w' ∧ Below B w w' ∧ TS env ρ' tm' tmps' ∧ tmps'.size = F.nt ∧ (∀ d, d ∉ dstsOf ops → tm'.get d = tm.get d) ∧
        Steps P (lone (mkF fn rd tmps df (.inRegion ops (List.range' i l.length) :: k)) cs w) (lone (mkF fn rd tmps' df k) cs w')
  | [], i, tm, cx, s, ρ, w, tmps, hl, h, hc, hs, ht, hn => by
      refine ⟨tm, cx, s, ρ, w, tmps, h, hc, ρ.le_refl, hs, Below.refl _ _, ht, hn, fun _ _ => rfl, .one ?_⟩
      exact st_regionEnd
  | o :: l, i, tm, cx, s, ρ, w, tmps, hl, h, hc, hs, ht, hn => by
      have ho : ops[i]? = some o := by
        have h0 : (ops.toList.drop i)[0]? = some o := by rw [hl]; rfl
        rw [List.getElem?_drop] at h0
        simpa using h0
      have hl' : ops.toList.drop (i + 1) = l := by
        have h0 : (ops.toList.drop i).drop 1 = l := by rw [hl]; rfl
        rwa [List.drop_drop] at h0
      simp only [runOps] at h
      obtain ⟨v, tm1, cx1, h, hc1, hw⟩ := wantS_ok h hc
      obtain ⟨hwant, ht1⟩ := wanted_ok (ρ := ρ) ht hw
      simp only [List.length_cons, List.range'_succ]
      split at h
      · rename_i hv
        subst hv
        obtain ⟨V, cx2, s2, ρ2, V', w2, h, hc2, hle, hV, hs2, hb, hsteps⟩ := doOp_ok hR h hc1 hs (fn := fn) (rd := rd) (df := df) (rest := List.range' (i + 1) l.length) (k := k) ho hwant (ht1.evOK' _) cs
        obtain ⟨hd, h⟩ := setTm_ok h
        obtain ⟨ht2, hn2⟩ := (ht1.mono hle).putT (F := F) hn hd hV
        obtain ⟨tm', cx', s', ρ', w', tmps', g1, g2, g3, g4, g5, g6, g7, g9, g8⟩ := runOps_ok hR cs l (i + 1) _ cx2 s2 ρ2 w2 _ hl' h hc2 hs2 ht2 hn2
        exact ⟨tm', cx', s', ρ', w', tmps', g1, g2, Pl.le_trans hle g3, g4, hb.trans g5, g6, g7, fun d hd => (g9 d hd).trans (set_others ho hw hd), hsteps.trans g8⟩
      · rename_i hv
        have hv' : v = false := by simpa using hv
        subst hv'
        obtain ⟨hd, h⟩ := setTm_ok h
        have hU : Rep env ρ undefS undef := ⟨[], rfl, rfl⟩
        obtain ⟨ht2, hn2⟩ := ht1.putT (F := F) hn hd hU
        obtain ⟨tm', cx', s', ρ', w', tmps', g1, g2, g3, g4, g5, g6, g7, g9, g8⟩ := runOps_ok hR cs l (i + 1) _ cx1 s ρ w _ hl' h hc1 hs ht2 hn2
        refine ⟨tm', cx', s', ρ', w', tmps', g1, g2, g3, g4, g5, g6, g7, fun d hd => (g9 d hd).trans (set_others ho hw hd), .head (st_opSkip ho hwant) ?_⟩
        rw [finish_mkF, ho]
        exact g8

end Go.SX
