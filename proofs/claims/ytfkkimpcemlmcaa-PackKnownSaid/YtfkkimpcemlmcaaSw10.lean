/- Frames: one step of the machine each; operations of a region in the text's order.
A region whose order is open: what it comes to in the text's order it comes to in every order.
A region whose order is open: every order comes to the same. -/
import Derived.Test.YtfkkimpcemlmcaaSw7
namespace Go.SX
open Go Go.RowKit
set_option linter.unusedVariables false
set_option linter.unusedSimpArgs false
set_option linter.unusedSectionVars false

/-- a running frame of the kind that the reckoner knows -/
def mkF (fn : Nat) (rd : Option Nat) (tmps : Array Value) (df : List Deferred) (todo : List Item) : Frame :=
  { fn := fn, tmps := tmps, todo := todo, defers := df, mode := .run, kind := .normal, roundOf := rd }

section moves
variable {P : Program} {fn : Nat} {rd : Option Nat} {tmps : Array Value} {df : List Deferred} {k : List Item} {cs : List Frame} {w : World}

def actOf (tmps : Array Value) : Act := ⟨tmps, []⟩

theorem eval_mkF (todo : List Item) (x : Operand) : (mkF fn rd tmps df todo).eval x = (actOf tmps).eval x := by cases x <;> rfl
theorem eval_mkF' (todo : List Item) : (mkF fn rd tmps df todo).eval = (actOf tmps).eval := funext (eval_mkF todo)

theorem st_skip : step P (lone (mkF fn rd tmps df (.code .skip :: k)) cs w) = .next (lone (mkF fn rd tmps df k) cs w) :=
  step_lone_go (by simp [stepG, stepG.exec, mkF])
theorem st_label {l : Nat} : step P (lone (mkF fn rd tmps df (.code (.label l) :: k)) cs w) = .next (lone (mkF fn rd tmps df k) cs w) :=
  step_lone_go (by simp [stepG, stepG.exec, mkF])
theorem st_inBlock {l : Nat} : step P (lone (mkF fn rd tmps df (.inBlock l :: k)) cs w) = .next (lone (mkF fn rd tmps df k) cs w) :=
  step_lone_go (by simp [stepG, stepG.exec, mkF])
theorem st_inScope {c : Code} : step P (lone (mkF fn rd tmps df (.inScope c :: k)) cs w) = .next (lone (mkF fn rd tmps df k) cs w) :=
  step_lone_go (by simp [stepG, stepG.exec, mkF])
theorem st_seq {x y : Code} : step P (lone (mkF fn rd tmps df (.code (.seq x y) :: k)) cs w) = .next (lone (mkF fn rd tmps df (.code x :: .code y :: k)) cs w) :=
  step_lone_go (by simp [stepG, stepG.exec, mkF])
theorem st_cond {c : Operand} {x y : Code} {t : Bool} (h : (actOf tmps).eval c = .bool t) :
    step P (lone (mkF fn rd tmps df (.code (.cond c x y) :: k)) cs w) = .next (lone (mkF fn rd tmps df (.code (if t then x else y) :: k)) cs w) :=
  step_lone_go (by
    have := eval_mkF (fn := fn) (rd := rd) (tmps := tmps) (df := df) (.code (.cond c x y) :: k) c
    simp only [mkF] at this
    simp [stepG, stepG.exec, mkF, this, h])
theorem st_block {id : Nat} {c : Code} : step P (lone (mkF fn rd tmps df (.code (.block id c) :: k)) cs w) = .next (lone (mkF fn rd tmps df (.code c :: .inBlock id :: k)) cs w) :=
  step_lone_go (by simp [stepG, stepG.exec, mkF])
theorem st_loop {c : Code} : step P (lone (mkF fn rd tmps df (.code (.loop c) :: k)) cs w) = .next (lone (mkF fn rd tmps df (.code c :: .inLoop c :: k)) cs w) :=
  step_lone_go (by simp [stepG, stepG.exec, mkF])
theorem st_inLoop {c : Code} : step P (lone (mkF fn rd tmps df (.inLoop c :: k)) cs w) = .next (lone (mkF fn rd tmps df (.code c :: .inLoop c :: k)) cs w) :=
  step_lone_go (by simp [stepG, stepG.exec, mkF])
theorem st_scope {c : Code} : step P (lone (mkF fn rd tmps df (.code (.scope c) :: k)) cs w) = .next (lone (mkF fn rd tmps df (.code c :: .inScope c :: k)) cs w) :=
  step_lone_go (by simp [stepG, stepG.exec, mkF])
theorem st_exit {id : Nat} {k' : List Item} (h : exitTo id k = some k') : step P (lone (mkF fn rd tmps df (.code (.exit id) :: k)) cs w) = .next (lone (mkF fn rd tmps df k') cs w) :=
  step_lone_go (by simp [stepG, stepG.exec, mkF, h])
theorem st_region {id : Nat} {ops : Array Oper} : step P (lone (mkF fn rd tmps df (.code (.region id ops false) :: k)) cs w) = .next (lone (mkF fn rd tmps df (.inRegion ops (List.range ops.size) :: k)) cs w) :=
  step_lone_go (by simp [stepG, stepG.exec, mkF])
theorem st_draw {id : Nat} {ops : Array Oper} : step P (lone (mkF fn rd tmps df (.code (.region id ops true) :: k)) cs w) =
    .next (lone (mkF fn rd tmps df (.inRegion ops (Region.schedule (P.follows .mixedOrders) ops (w.tape w.drawn (.order fn id))) :: k)) cs { w with drawn := w.drawn + 1 }) :=
  step_lone_go (by simp [stepG, stepG.exec, mkF, choose, Sem.run, Question.forced, Question.cut])
theorem st_regionEnd {ops : Array Oper} : step P (lone (mkF fn rd tmps df (.inRegion ops [] :: k)) cs w) = .next (lone (mkF fn rd tmps df k) cs w) :=
  step_lone_go (by simp [stepG, stepG.exec, mkF])

def putT (tmps : Array Value) (dst : Option Tmp) (v : Value) : Array Value :=
  match dst with
  | some d => tmps.setIfInBounds d v
  | none => tmps

theorem finish_mkF (ops : Array Oper) (i : Nat) (rest : List Nat) (v : Value) :
    (mkF fn rd tmps df (.inRegion ops (i :: rest) :: k)).finish v = mkF fn rd (putT tmps ((ops[i]?).bind (·.dst)) v) df (.inRegion ops rest :: k) := by
  cases h : (ops[i]?).bind (·.dst) <;> simp [Frame.finish, mkF, putT, h]

theorem st_opSkip {ops : Array Oper} {i : Nat} {rest : List Nat} {o : Oper} (ho : ops[i]? = some o) (hw : Region.wanted o (yielded ops tmps) = false) :
    step P (lone (mkF fn rd tmps df (.inRegion ops (i :: rest) :: k)) cs w) = .next (lone ((mkF fn rd tmps df (.inRegion ops (i :: rest) :: k)).finish undef) cs w) :=
  step_lone_go (by simp [stepG, stepG.exec, mkF, ho, hw])

def notDefer (o : Oper) : Prop := ∀ c, o.op ≠ .defer c

theorem stG_op {ops : Array Oper} {i : Nat} {rest : List Nat} {o : Oper} (ho : ops[i]? = some o) (hw : Region.wanted o (yielded ops tmps) = true) (hnd : notDefer o) :
    stepG P true { frame := mkF fn rd tmps df (.inRegion ops (i :: rest) :: k), callers := cs, status := .running, dying := none } w =
      stepG.apply P true (mkF fn rd tmps df (.inRegion ops (i :: rest) :: k)) cs none (execOp (actOf tmps).eval o) w := by
  have he := eval_mkF' (fn := fn) (rd := rd) (tmps := tmps) (df := df) (.inRegion ops (i :: rest) :: k)
  simp only [mkF] at he
  cases rd with
  | none => simp [stepG, stepG.exec, stepG.oper, Frame.oper?, mkF, ho, hw, he]
  | some l =>
    have : ∀ (x y : GStep), (match (some l : Option Nat), o.op with
        | some l, .defer c => x
        | _, _ => y) = y := by
      intro x y
      cases hop : o.op <;> first | rfl | exact absurd hop (hnd _)
    simp [stepG, stepG.exec, stepG.oper, Frame.oper?, mkF, ho, hw, he]
    split
    · rename_i l' c hl hop
      exact absurd hop (hnd c)
    · rfl

theorem st_opVal {ops : Array Oper} {i : Nat} {rest : List Nat} {o : Oper} (ho : ops[i]? = some o) (hw : Region.wanted o (yielded ops tmps) = true) (hnd : notDefer o) {V : Value} {w' : World}
    (hr : (execOp (actOf tmps).eval o).run P w = .ok (.value V) w' ∨ ((execOp (actOf tmps).eval o).run P w = .ok .skip w' ∧ V = undef)) :
    step P (lone (mkF fn rd tmps df (.inRegion ops (i :: rest) :: k)) cs w) = .next (lone ((mkF fn rd tmps df (.inRegion ops (i :: rest) :: k)).finish V) cs w') :=
  step_lone_go (by
    rw [stG_op ho hw hnd]
    rcases hr with hr | ⟨hr, rfl⟩ <;> simp [stepG.apply, hr])

theorem st_opEnter {ops : Array Oper} {i : Nat} {rest : List Nat} {o : Oper} (ho : ops[i]? = some o) (hw : Region.wanted o (yielded ops tmps) = true) (hnd : notDefer o) {f : Nat} {args : Array Value} {w' : World}
    (hr : (execOp (actOf tmps).eval o).run P w = .ok (.enter f args) w') :
    step P (lone (mkF fn rd tmps df (.inRegion ops (i :: rest) :: k)) cs w) = .next (lone (Frame.enter P f args .normal) (mkF fn rd tmps df (.inRegion ops (i :: rest) :: k) :: cs) w') :=
  step_lone_go (by
    rw [stG_op ho hw hnd]
    simp [stepG.apply, hr, mkF])

theorem st_opRound {ops : Array Oper} {i : Nat} {rest : List Nat} {o : Oper} (ho : ops[i]? = some o) (hw : Region.wanted o (yielded ops tmps) = true) (hnd : notDefer o) {l f : Nat} {ts : Array Value} {assign body : Code} {w' : World}
    (hr : (execOp (actOf tmps).eval o).run P w = .ok (.round l f ts assign body) w') :
    step P (lone (mkF fn rd tmps df (.inRegion ops (i :: rest) :: k)) cs w) = .next (lone (Frame.round l f ts assign body .normal) (mkF fn rd tmps df (.inRegion ops (i :: rest) :: k) :: cs) w') :=
  step_lone_go (by
    rw [stG_op ho hw hnd]
    simp [stepG.apply, hr, mkF])
end moves

/-! ### the frame's slots -/

theorem TS.put {env : Env} {ρ : Pl} {tm : T SV} {tmps : Array Value} (ht : TS env ρ tm tmps) {d : Nat} (hd : d < tmps.size) {v : SV} {V : Value} (hv : Rep env ρ v V) :
    TS env ρ (tm.set d v) (tmps.setIfInBounds d V) := by
  intro t s h
  rw [T.get_set] at h
  split at h
  · rename_i htd
    subst htd
    cases h
    exact ⟨V, by simp [hd], hv⟩
  · rename_i htd
    obtain ⟨u, hu, hr⟩ := ht t s h
    exact ⟨u, by rw [Array.getElem?_setIfInBounds_ne (Ne.symm htd)]; exact hu, hr⟩

/-- the same slot said otherwise -/
theorem TS.again {env : Env} {ρ : Pl} {tm : T SV} {tmps : Array Value} (ht : TS env ρ tm tmps) {d : Nat} {v v' : SV} (hd : tm.get d = some v) (hv : ∀ V, Rep env ρ v V → Rep env ρ v' V) : TS env ρ (tm.set d v') tmps := by
  intro t s h
  rw [T.get_set] at h
  split at h
  · rename_i htd
    subst htd
    cases h
    obtain ⟨u, hu, hr⟩ := ht _ _ hd
    exact ⟨u, hu, hv u hr⟩
  · exact ht t s h

def setTM (tm : T SV) (dst : Option Tmp) (v : SV) : T SV :=
  match dst with
  | some d => tm.set d v
  | none => tm

theorem setTm_ok {env : Env} {F : FI} {tm : T SV} {dst : Option Tmp} {v : SV} {k : T SV → Tree} {s : St} {r : Out × St} (h : runE env (setTm F tm dst v k) s = some r) :
    (∀ d, dst = some d → d < F.nt) ∧ runE env (k (setTM tm dst v)) s = some r := by
  unfold setTm at h
  cases dst with
  | none => exact ⟨by simp, h⟩
  | some d =>
    simp only [blt_dec] at h
    by_cases hd : d < F.nt
    · simp only [hd, decide_true, cond_true] at h
      exact ⟨fun d' e => by cases e; exact hd, h⟩
    · simp only [hd, decide_false, cond_false] at h
      exact (runE_fail h).elim

theorem TS.putT {env : Env} {ρ : Pl} {F : FI} {tm : T SV} {tmps : Array Value} (ht : TS env ρ tm tmps) (hn : tmps.size = F.nt) {dst : Option Tmp} (hd : ∀ d, dst = some d → d < F.nt) {v : SV} {V : Value} (hv : Rep env ρ v V) :
    TS env ρ (setTM tm dst v) (Go.SX.putT tmps dst V) ∧ (Go.SX.putT tmps dst V).size = F.nt := by
  cases dst with
  | none => exact ⟨ht, hn⟩
  | some d => exact ⟨ht.put (by rw [hn]; exact hd d rfl) hv, by simp [Go.SX.putT, hn]⟩

/-! ### is an operation wanted? -/

theorem wantS_ok {env : Env} {F : FI} {ops : Array Oper} {tm : T SV} {cx : Ctx} {o : Oper} {k : Bool → T SV → Ctx → Tree} {s : St} {r : Out × St}
    (h : runE env (wantS F ops tm cx o k) s = some r) (hc : cx.ok env) :
    ∃ v tm' cx', runE env (k v tm' cx') s = some r ∧ cx'.ok env ∧
      ((o.guard = none ∧ v = true ∧ tm' = tm) ∨
       (∃ j want t, o.guard = some (j, want) ∧ (ops[j]?).bind (·.dst) = some t ∧
         ((∃ b, tm.get t = some (.bool b) ∧ v = (b.den env == want) ∧ tm' = tm.set t (.bool (.lit (b.den env)))) ∨ (tm.get t = some (.tuple []) ∧ v = false ∧ tm' = tm)))) := by
  unfold wantS at h
  split at h
  · rename_i hg
    exact ⟨true, tm, cx, h, hc, .inl ⟨hg, rfl, rfl⟩⟩
  · rename_i j want hg
    split at h
    · exact (runE_fail h).elim
    · rename_i t ht
      split at h
      · rename_i b hb
        obtain ⟨cx', hc', h⟩ := branch_ok h hc
        obtain ⟨_, h⟩ := setTm_ok h
        exact ⟨_, _, cx', h, hc', .inr ⟨j, want, t, hg, ht, .inl ⟨b, hb, rfl, rfl⟩⟩⟩
      · rename_i hb
        exact ⟨_, _, cx, h, hc, .inr ⟨j, want, t, hg, ht, .inr ⟨hb, rfl, rfl⟩⟩⟩
      · exact (runE_fail h).elim

theorem wanted_of {env : Env} {ρ : Pl} {ops : Array Oper} {tmps : Array Value} {o : Oper} {j : Nat} {want : Bool} {t : Nat} {v : Bool} (hg : o.guard = some (j, want)) (ht : (ops[j]?).bind (·.dst) = some t) {V : Value}
    (hV : tmps[t]? = some V) (hv : (∃ b : Bool, V = .bool b ∧ v = (b == want)) ∨ (V = .tuple #[] ∧ v = false)) : Region.wanted o (yielded ops tmps) = v := by
  unfold Region.wanted
  rw [hg]
  show (yielded ops tmps j == some want) = v
  have hy : yielded ops tmps j = (match (some V : Option Value) with | some (.bool b) => some b | _ => none) := by
    unfold yielded
    rw [← hV]
    congr 1
    simp only [ht, Option.bind_some]
  rw [hy]
  rcases hv with ⟨b, rfl, rfl⟩ | ⟨rfl, rfl⟩
  · cases b <;> cases want <;> rfl
  · cases want <;> rfl

/-! ### what is said of calls -/

structure CallOK (P : Program) (env : Env) (B : Nat) (R : Run) : Prop where
  call : ∀ (f : Nat) (args : List SV) (cx : Ctx) (K : Res → Tree) (s : St) (r : Out × St), runE env (R (.call f args cx) K) s = some r → cx.ok env →
    ∀ (ρ : Pl) (vs : List Value) (w : World), RepL env ρ args vs → HS env ρ B s.h w → ∀ cs, ∃ v cx' s' ρ' V w' fr',
      runE env (K (.val v cx')) s' = some r ∧ cx'.ok env ∧ ρ.le ρ' ∧ Rep env ρ' v V ∧ HS env ρ' B s'.h w' ∧ Below B w w' ∧
      (callFunc f vs.toArray).run P w = .ok (.enter f vs.toArray) w ∧ Steps P (lone (Frame.enter P f vs.toArray .normal) cs w) (lone fr' cs w') ∧ fr'.fn = f ∧ fr'.leaving P w' (.returned V)
  yield : ∀ (l : Nat) (args : List SV) (cx : Ctx) (K : Res → Tree) (s : St) (r : Out × St), runE env (R (.yield l args cx) K) s = some r → cx.ok env →
    ∀ (ρ : Pl) (vs : List Value) (w : World) (rl ol : Nat), ρ l = some (rl, ol) → RepL env ρ args vs → HS env ρ B s.h w → ∀ (c : Frame) (cs : List Frame), ∃ v cx' s' ρ' V w' f ts assign body,
      runE env (K (.val v cx')) s' = some r ∧ cx'.ok env ∧ ρ.le ρ' ∧ Rep env ρ' v V ∧ HS env ρ' B s'.h w' ∧ Below B w w' ∧
      (Instr.yield rl vs.toArray).run P w = .ok (.round rl f ts assign body) w ∧ Steps P (lone (Frame.round rl f ts assign body .normal) (c :: cs) w) (lone (c.finish V) cs w')

/-- a call of a function value: c is the frame that waits for the value -/
theorem callV_ok {P : Program} {env : Env} {B : Nat} {R : Run} (hR : CallOK P env B R) {f : SV} {args : List SV} {cx : Ctx} {k : SV → Ctx → Tree} {s : St} {r : Out × St}
    (h : runE env (callV R f args cx k) s = some r) (hc : cx.ok env) {ρ : Pl} {w : World} {Fv : Value} {vs : List Value} (hf : Rep env ρ f Fv) (ha : RepL env ρ args vs) (hs : HS env ρ B s.h w)
    {sem : Sem Next} (hsem : ∀ g fs cp, Fv = .func g fs cp → sem.run P w = (invoke (.fn g cp) (fs ++ vs.toArray)).run P w) {m0 : Machine} (c : Frame) (cs : List Frame)
    (he : ∀ g as, sem.run P w = .ok (.enter g as) w → step P m0 = .next (lone (Frame.enter P g as .normal) (c :: cs) w))
    (hro : ∀ l g ts assign body, sem.run P w = .ok (.round l g ts assign body) w → step P m0 = .next (lone (Frame.round l g ts assign body .normal) (c :: cs) w)) :
    ∃ v cx' s' ρ' V w', runE env (k v cx') s' = some r ∧ cx'.ok env ∧ ρ.le ρ' ∧ Rep env ρ' v V ∧ HS env ρ' B s'.h w' ∧ Below B w w' ∧ Steps P m0 (lone (c.finish V) cs w') := by
  unfold callV at h
  split at h
  · rename_i g first cap
    obtain ⟨gg, fs, cp, hgg, h1, h2, rfl⟩ := hf
    rw [show gg = .func g from hgg] at hsem
    have hall : RepL env ρ (first ++ args ++ cap) (fs ++ vs ++ cp) := (h1.append ha).append h2
    obtain ⟨v, cx', s', ρ', V, w', fr', hk, hc', hle, hv, hs', hb, hcall, hsteps, hfn, hleave⟩ := hR.call g _ cx _ s r h hc ρ _ w hall hs (c :: cs)
    refine ⟨v, cx', s', ρ', V, w', hk, hc', hle, hv, hs', hb, ?_⟩
    have hrun : sem.run P w = .ok (.enter g (fs ++ vs ++ cp).toArray) w := by
      rw [hsem _ _ _ rfl]
      simp only [invoke]
      rw [show (fs.toArray ++ vs.toArray ++ cp.toArray) = (fs ++ vs ++ cp).toArray by simp]
      exact hcall
    exact .head (he _ _ hrun) (hsteps.trans (.one (step_leave_returned hleave)))
  · rename_i l first cap
    obtain ⟨gg, fs, cp, hgg, h1, h2, rfl⟩ := hf
    obtain ⟨rl, ol, hρ, rfl⟩ := hgg
    have hall : RepL env ρ (first ++ args) (fs ++ vs) := h1.append ha
    obtain ⟨v, cx', s', ρ', V, w', g, ts, assign, body, hk, hc', hle, hv, hs', hb, hcall, hsteps⟩ := hR.yield l _ cx _ s r h hc ρ _ w rl ol hρ hall hs c cs
    refine ⟨v, cx', s', ρ', V, w', hk, hc', hle, hv, hs', hb, ?_⟩
    have hrun : sem.run P w = .ok (.round rl g ts assign body) w := by
      rw [hsem _ _ _ rfl]
      simp only [invoke]
      rw [show (fs.toArray ++ vs.toArray) = (fs ++ vs).toArray by simp]
      exact hcall
    exact .head (hro _ _ _ _ _ hrun) hsteps
  · exact (runE_fail h).elim

/-- one operation in its frame -/
theorem doOp_ok {P : Program} {env : Env} {B : Nat} {R : Run} (hR : CallOK P env B R) {F : FI} {tm : T SV} {cx : Ctx} {o : Oper} {kk : SV → Ctx → Tree} {s : St} {r : Out × St}
    (h : runE env (doOp P R F tm cx o kk) s = some r) (hc : cx.ok env) {ρ : Pl} {w : World} (hs : HS env ρ B s.h w) {fn : Nat} {rd : Option Nat} {tmps : Array Value} {df : List Deferred}
    {ops : Array Oper} {i : Nat} {rest : List Nat} {k : List Item} (ho : ops[i]? = some o) (hw : Region.wanted o (yielded ops tmps) = true)
    (hev : EvOK env ρ tm (actOf tmps).eval o.op.operands.toList) (cs : List Frame) :
    ∃ v cx' s' ρ' V w', runE env (kk v cx') s' = some r ∧ cx'.ok env ∧ ρ.le ρ' ∧ Rep env ρ' v V ∧ HS env ρ' B s'.h w' ∧ Below B w w' ∧
      Steps P (lone (mkF fn rd tmps df (.inRegion ops (i :: rest) :: k)) cs w) (lone (mkF fn rd (putT tmps o.dst V) df (.inRegion ops rest :: k)) cs w') := by
  have hfin : ∀ V, (mkF fn rd tmps df (.inRegion ops (i :: rest) :: k)).finish V = mkF fn rd (putT tmps o.dst V) df (.inRegion ops rest :: k) := by
    intro V; rw [finish_mkF, ho]; rfl
  unfold doOp at h
  split at h
  · rename_i f args argTypes hop
    have hnd : notDefer o := fun c e => by rw [hop] at e; cases e
    split at h
    · rename_i fv as hf ha
      have hF : Rep env ρ fv ((actOf tmps).eval f) := hev f (by rw [hop]; simp [Op.operands, Call.operands]) _ hf
      have hA : RepL env ρ as (args.toList.map (actOf tmps).eval) := evalL_ok (fun x hx => hev x (by rw [hop]; simp [Op.operands, Call.operands] at hx ⊢; exact .inr hx)) ha
      obtain ⟨v, cx', s', ρ', V, w', hk, hc', hle, hv, hs', hb, hsteps⟩ := callV_ok hR h hc hF hA hs (sem := execOp (actOf tmps).eval o) (by
          intro g fs cp hg
          simp only [execOp, hop, Go.resolve, Deferred.ofValue, hg, Sem.run_bind, Sem.run_pure, Result.andThen_ok]
          congr 2
          rw [← Array.toList_map, Array.toArray_toList])
        (m0 := lone (mkF fn rd tmps df (.inRegion ops (i :: rest) :: k)) cs w) (mkF fn rd tmps df (.inRegion ops (i :: rest) :: k)) cs
        (fun g as' hr => st_opEnter ho hw hnd hr) (fun l g ts a b hr => st_opRound ho hw hnd hr)
      refine ⟨v, cx', s', ρ', V, w', hk, hc', hle, hv, hs', hb, ?_⟩
      rw [← hfin]
      exact hsteps
    · exact (runE_fail h).elim
  · rename_i hno
    have hnd : notDefer o := by
      intro c e
      obtain ⟨d, op, t, p, a, g⟩ := o
      simp only at e
      subst e
      simp only [aop, evT, aPick, aAlloc, aBox, aBuild, aBuildSlice, aLoad, aStore, aNilCheck, aBinOp, aUnOp, aConvert, aMakeInterface, aMakeFunc, aMakeSlice, aFieldAddr, aField, aIndexAddr, aIndex, aSlice, aSlice2, aSliceToArrayPointer, aExtract, aCall] at h
      exact runE_fail h
    obtain ⟨v, cx', s', ρ', V, w', hk, hc', hle, hv, hs', hb, hrun⟩ := aop_ok hc hs hev h
    refine ⟨v, cx', s', ρ', V, w', hk, hc', hle, hv, hs', hb, ?_⟩
    rw [← hfin]
    exact .one (st_opVal ho hw hnd hrun)

theorem TS.evOK' {env : Env} {ρ : Pl} {tm : T SV} {tmps : Array Value} (ht : TS env ρ tm tmps) (l : List Operand) : EvOK env ρ tm (actOf tmps).eval l := TS.evOK (a := actOf tmps) ht l

theorem wanted_ok {env : Env} {ρ : Pl} {ops : Array Oper} {tm tm' : T SV} {tmps : Array Value} {o : Oper} {v : Bool} (ht : TS env ρ tm tmps)
    (hw : (o.guard = none ∧ v = true ∧ tm' = tm) ∨
       (∃ j want t, o.guard = some (j, want) ∧ (ops[j]?).bind (·.dst) = some t ∧
         ((∃ b, tm.get t = some (.bool b) ∧ v = (b.den env == want) ∧ tm' = tm.set t (.bool (.lit (b.den env)))) ∨ (tm.get t = some (.tuple []) ∧ v = false ∧ tm' = tm)))) :
    Region.wanted o (yielded ops tmps) = v ∧ TS env ρ tm' tmps := by
  rcases hw with ⟨hg, rfl, rfl⟩ | ⟨j, want, t, hg, hd, ⟨b, hb, rfl, rfl⟩ | ⟨hb, rfl, rfl⟩⟩
  · exact ⟨by simp [Region.wanted, hg], ht⟩
  · obtain ⟨V, hV, hr⟩ := ht t _ hb
    refine ⟨wanted_of (env := env) (ρ := ρ) hg hd hV (.inl ⟨_, hr, rfl⟩), ht.again hb fun V hV => ?_⟩
    exact hV
  · obtain ⟨V, hV, hr⟩ := ht t _ hb
    obtain ⟨vs, hvs, rfl⟩ := hr
    rw [show vs = [] from hvs] at hV
    exact ⟨wanted_of (env := env) (ρ := ρ) hg hd hV (.inr ⟨rfl, rfl⟩), ht⟩

theorem mem_dsts {ops : Array Oper} {j : Nat} {t : Nat} (h : (ops[j]?).bind (·.dst) = some t) : t ∈ dstsOf ops := by
  obtain ⟨o, h1, h2⟩ := Option.bind_eq_some_iff.1 h
  exact List.mem_filterMap.2 ⟨o, by simpa using Array.mem_of_getElem? h1, h2⟩
/-- an operation turns no slot but those that its region fills -/
theorem set_others {env : Env} {ops : Array Oper} {tm tm1 : T SV} {o : Oper} {i : Nat} {v : Bool} {V : SV} (ho : ops[i]? = some o)
    (hw : (o.guard = none ∧ v = true ∧ tm1 = tm) ∨
       (∃ j want t, o.guard = some (j, want) ∧ (ops[j]?).bind (·.dst) = some t ∧
         ((∃ b, tm.get t = some (.bool b) ∧ v = (b.den env == want) ∧ tm1 = tm.set t (.bool (.lit (b.den env)))) ∨ (tm.get t = some (.tuple []) ∧ v = false ∧ tm1 = tm)))) {d : Nat} (hd : d ∉ dstsOf ops) :
    (setTM tm1 o.dst V).get d = tm.get d := by
  have h1 : (setTM tm1 o.dst V).get d = tm1.get d := by
    cases hdst : o.dst with
    | none => rfl
    | some t =>
      simp only [setTM, T.get_set]
      rw [if_neg]
      rintro rfl
      exact hd (mem_dsts (j := i) (by rw [ho]; exact hdst))
  rw [h1]
  rcases hw with ⟨_, _, rfl⟩ | ⟨j, want, t, _, ht, ⟨b, _, _, rfl⟩ | ⟨_, _, rfl⟩⟩
  · rfl
  · rw [T.get_set, if_neg]
    rintro rfl
    exact hd (mem_dsts ht)
  · rfl

/-- a region whose order stands -/
theorem runOps_ok {P : Program} {env : Env} {B : Nat} {R : Run} (hR : CallOK P env B R) {F : FI} {ops : Array Oper} {kk : T SV → Ctx → Tree} {r : Out × St} {fn : Nat} {rd : Option Nat} {df : List Deferred} {k : List Item} (cs : List Frame) :
    ∀ (l : List Oper) (i : Nat) (tm : T SV) (cx : Ctx) (s : St) (ρ : Pl) (w : World) (tmps : Array Value), ops.toList.drop i = l → runE env (runOps P R F ops kk l tm cx) s = some r → cx.ok env → HS env ρ B s.h w →
      TS env ρ tm tmps → tmps.size = F.nt →
      ∃ tm' cx' s' ρ' w' tmps', runE env (kk tm' cx') s' = some r ∧ cx'.ok env ∧ ρ.le ρ' ∧ HS env ρ' B s'.h w' ∧ Below B w w' ∧ TS env ρ' tm' tmps' ∧ tmps'.size = F.nt ∧ (∀ d, d ∉ dstsOf ops → tm'.get d = tm.get d) ∧
        Steps P (lone (mkF fn rd tmps df (.inRegion ops (List.range' i l.length) :: k)) cs w) (lone (mkF fn rd tmps' df k) cs w')
  | [], i, tm, cx, s, ρ, w, tmps, hl, h, hc, hs, ht, hn => by
      refine ⟨tm, cx, s, ρ, w, tmps, h, hc, ρ.le_refl, hs, Below.refl _ _, ht, hn, fun _ _ => rfl, .one ?_⟩
      exact st_regionEnd
  | o :: l, i, tm, cx, s, ρ, w, tmps, hl, h, hc, hs, ht, hn => by
      have ho : ops[i]? = some o := by
        have h0 : (ops.toList.drop i)[0]? = some o := by rw [hl]; rfl
        rw [List.getElem?_drop] at h0
        simpa using h0
      have hl' : ops.toList.drop (i + 1) = l := by
        have h0 : (ops.toList.drop i).drop 1 = l := by rw [hl]; rfl
        rwa [List.drop_drop] at h0
      simp only [runOps] at h
      obtain ⟨v, tm1, cx1, h, hc1, hw⟩ := wantS_ok h hc
      obtain ⟨hwant, ht1⟩ := wanted_ok (ρ := ρ) ht hw
      simp only [List.length_cons, List.range'_succ]
      split at h
      · rename_i hv
        subst hv
        obtain ⟨V, cx2, s2, ρ2, V', w2, h, hc2, hle, hV, hs2, hb, hsteps⟩ := doOp_ok hR h hc1 hs (fn := fn) (rd := rd) (df := df) (rest := List.range' (i + 1) l.length) (k := k) ho hwant (ht1.evOK' _) cs
        obtain ⟨hd, h⟩ := setTm_ok h
        obtain ⟨ht2, hn2⟩ := (ht1.mono hle).putT (F := F) hn hd hV
        obtain ⟨tm', cx', s', ρ', w', tmps', g1, g2, g3, g4, g5, g6, g7, g9, g8⟩ := runOps_ok hR cs l (i + 1) _ cx2 s2 ρ2 w2 _ hl' h hc2 hs2 ht2 hn2
        exact ⟨tm', cx', s', ρ', w', tmps', g1, g2, Pl.le_trans hle g3, g4, hb.trans g5, g6, g7, fun d hd => (g9 d hd).trans (set_others ho hw hd), hsteps.trans g8⟩
      · rename_i hv
        have hv' : v = false := by simpa using hv
        subst hv'
        obtain ⟨hd, h⟩ := setTm_ok h
        have hU : Rep env ρ undefS undef := ⟨[], rfl, rfl⟩
        obtain ⟨ht2, hn2⟩ := ht1.putT (F := F) hn hd hU
        obtain ⟨tm', cx', s', ρ', w', tmps', g1, g2, g3, g4, g5, g6, g7, g9, g8⟩ := runOps_ok hR cs l (i + 1) _ cx1 s ρ w _ hl' h hc1 hs ht2 hn2
        refine ⟨tm', cx', s', ρ', w', tmps', g1, g2, g3, g4, g5, g6, g7, fun d hd => (g9 d hd).trans (set_others ho hw hd), .head (st_opSkip ho hwant) ?_⟩
        rw [finish_mkF, ho]
        exact g8

end Go.SX

namespace Go.SX
open Go Go.RowKit
set_option linter.unusedVariables false
set_option linter.unusedSimpArgs false
set_option linter.unusedSectionVars false

/-- what is kept of an operation in the text's order: its place, whether it runs, its mask, its value, the slots that it sees, the store before it, the store behind it -/
structure TR where
  i : Nat
  ex : Bool
  o : Oper
  m : Nat
  v : SV
  tm : T SV
  cx : Ctx
  cx2 : Ctx
  tm0 : T SV
  s : St
  s1 : St

def TR.lg (t : TR) : Log := ⟨t.s.nx, t.s1.nx, t.s1.tch, t.s1.wr⟩
def TR.affB (b : Nat) (t : TR) : Bool := t.ex && (t.s1.wr.contains b || (decide (t.s.nx ≤ b) && decide (b < t.s1.nx)))
def TR.affT (x : Nat) (t : TR) : Bool := t.o.dst == some x

def srcH (s0 : T Blk) (l : List TR) (b : Nat) : Option Blk :=
  match (l.filter (TR.affB b)).getLast? with
  | some t => t.s1.h.get b
  | none => s0.get b

def srcT (tm0 : T SV) (l : List TR) (x : Nat) : Option SV :=
  match (l.filter (TR.affT x)).getLast? with
  | some t => some t.v
  | none => tm0.get x

theorem srcH_snoc (s0 : T Blk) (l : List TR) (t : TR) (b : Nat) : srcH s0 (l ++ [t]) b = if t.affB b = true then t.s1.h.get b else srcH s0 l b := by
  unfold srcH
  rw [List.filter_append]
  cases h : t.affB b with
  | true => simp [h]
  | false => simp [h]

theorem srcT_snoc (tm0 : T SV) (l : List TR) (t : TR) (x : Nat) : srcT tm0 (l ++ [t]) x = if t.affT x = true then some t.v else srcT tm0 l x := by
  unfold srcT
  rw [List.filter_append]
  cases h : t.affT x with
  | true => simp [h]
  | false => simp [h]

def Same (env : Env) (a b : SV) : Prop := ∀ ρ V, Rep env ρ a V → Rep env ρ b V

def leafK : SV → Ctx → Tree := fun v cx => .leaf (.val v cx)

/-- what the guard of an operation asks, by the slots in the text's order -/
def GuardS (env : Env) (ops : Array Oper) (tm tm' : T SV) (o : Oper) (v : Bool) : Prop :=
  (o.guard = none ∧ v = true ∧ tm' = tm) ∨
       (∃ j want t, o.guard = some (j, want) ∧ (ops[j]?).bind (·.dst) = some t ∧
         ((∃ b, tm.get t = some (.bool b) ∧ v = (b.den env == want) ∧ tm' = tm.set t (.bool (.lit (b.den env)))) ∨ (tm.get t = some (.tuple []) ∧ v = false ∧ tm' = tm)))

/-- one record, with what was checked of it -/
structure Step1 (P : Program) (env : Env) (R : Run) (F : FI) (ops : Array Oper) (masks : T Nat) (rs : List Rec) (t : TR) : Prop where
  op : ops[t.i]? = some t.o
  m : t.m = ancOf masks t.o
  edges : edgesLow t.i t.o = true
  ap2 : apart2 ops t.i t.o t.m = true
  guard : GuardS env ops t.tm0 t.tm t.o t.ex
  cx : t.cx.ok env
  dst : ∀ d, t.o.dst = some d → d < F.nt
  run : t.ex = true → runE env (doOp P R F t.tm t.cx t.o leafK) t.s.inner = some (.val t.v t.cx2, t.s1) ∧ apart1 ops t.i t.o t.m t.lg rs = true
  skip : t.ex = false → t.v = undefS ∧ t.s1 = t.s

inductive Valid (P : Program) (env : Env) (R : Run) (F : FI) (ops : Array Oper) (tm0 : T SV) (s0 : St) : List TR → T SV → St → T Nat → List Rec → Prop
  | nil : Valid P env R F ops tm0 s0 [] tm0 s0 .nil []
  | run {tr : List TR} {tm : T SV} {s : St} {masks : T Nat} {rs : List Rec} (t : TR) : Valid P env R F ops tm0 s0 tr tm s masks rs → t.i = tr.length → t.tm0 = tm → t.s = s →
      Step1 P env R F ops masks rs t → t.ex = true →
      Valid P env R F ops tm0 s0 (tr ++ [t]) (setTM t.tm t.o.dst t.v) (s.outer t.s1) (masks.set t.i t.m) (⟨t.i, t.lg⟩ :: rs)
  | skip {tr : List TR} {tm : T SV} {s : St} {masks : T Nat} {rs : List Rec} (t : TR) : Valid P env R F ops tm0 s0 tr tm s masks rs → t.i = tr.length → t.tm0 = tm → t.s = s →
      Step1 P env R F ops masks rs t → t.ex = false →
      Valid P env R F ops tm0 s0 (tr ++ [t]) (setTM t.tm t.o.dst t.v) s (masks.set t.i t.m) rs

section
variable {P : Program} {env : Env} {R : Run} {F : FI} {ops : Array Oper}

/-- the text's order leaves a trace -/
theorem drawOps_trace {B : Nat} (hR : CallOK P env B R) {kk : T SV → Ctx → Tree} {r : Out × St} {tm0 : T SV} {s0 : St} : ∀ (l : List Oper) (i : Nat) (masks : T Nat) (rs : List Rec) (tm : T SV) (cx : Ctx) (s : St) (tr : List TR)
    (ρ : Pl) (w : World) (tmps : Array Value),
    ops.toList.drop i = l → i = tr.length → Valid P env R F ops tm0 s0 tr tm s masks rs → cx.ok env → HS env ρ B s.h w → TS env ρ tm tmps → tmps.size = F.nt →
    runE env (drawOps P R F ops kk l i masks rs tm cx) s = some r →
    ∃ tr' tm' s' masks' rs' cx', Valid P env R F ops tm0 s0 tr' tm' s' masks' rs' ∧ tr'.length = ops.size ∧ cx'.ok env ∧ runE env (kk tm' cx') s' = some r
  | [], i, masks, rs, tm, cx, s, tr, ρ, w, tmps, hl, hi, hv, hc, hs, ht, hn, h => by
      refine ⟨tr, tm, s, masks, rs, cx, hv, ?_, hc, h⟩
      have h1 : ops.size ≤ i := by
        have := List.drop_eq_nil_iff.1 hl
        simpa using this
      have h2 : tr.length ≤ ops.size := by
        cases hv with
        | nil => simp
        | run t hv' ht _ _ st _ =>
          have := (Array.getElem?_eq_some_iff.1 st.op).1
          simp; omega
        | skip t hv' ht _ _ st _ =>
          have := (Array.getElem?_eq_some_iff.1 st.op).1
          simp; omega
      omega
  | o :: l, i, masks, rs, tm, cx, s, tr, ρ, w, tmps, hl, hi, hv, hc, hs, ht, hn, h => by
      have ho : ops[i]? = some o := by
        have h0 : (ops.toList.drop i)[0]? = some o := by rw [hl]; rfl
        rw [List.getElem?_drop] at h0
        simpa using h0
      have hl' : ops.toList.drop (i + 1) = l := by
        have h0 : (ops.toList.drop i).drop 1 = l := by rw [hl]; rfl
        rwa [List.drop_drop] at h0
      simp only [drawOps] at h
      split at h
      · rename_i hchk
        simp only [Bool.and_eq_true] at hchk
        obtain ⟨v, tm1, cx1, h, hc1, hw⟩ := wantS_ok h hc
        obtain ⟨hwant, ht1⟩ := wanted_ok (ρ := ρ) ht hw
        split at h
        · rename_i hvt
          subst hvt
          obtain ⟨out, s1, h1, h2⟩ := runE_seg h
          cases out with
          | tms tm9 cx9 => exact (runE_fail h2).elim
          | val v2 cx2 =>
          simp only at h2
          split at h2
          · rename_i hap
            obtain ⟨hd, h3⟩ := setTm_ok h2
            obtain ⟨V, cx3, s3, ρ2, V', w2, g1, g2, g3, g4, g5, g6, _⟩ := doOp_ok hR (kk := leafK) h1 hc1 (s := s.inner) hs (fn := 0) (rd := none) (df := []) (rest := []) (k := []) ho hwant (ht1.evOK' _) []
            have hsame : V = v2 ∧ cx3 = cx2 ∧ s3 = s1 := by
              simp only [leafK, runE, run, PT.at, Option.some.injEq, Prod.mk.injEq, Out.val.injEq] at g1
              exact ⟨g1.1.1, g1.1.2, g1.2⟩
            obtain ⟨rfl, rfl, rfl⟩ := hsame
            obtain ⟨ht2, hn2⟩ := (ht1.mono g3).putT (F := F) hn hd g4
            have st : Step1 P env R F ops masks rs ⟨i, true, o, ancOf masks o, V, tm1, cx1, cx3, tm, s, s3⟩ :=
              ⟨ho, rfl, hchk.1, hchk.2, hw, hc1, hd, fun _ => ⟨h1, hap⟩, fun e => by cases e⟩
            exact drawOps_trace hR l (i + 1) _ _ _ cx3 (s.outer s3) (tr ++ [⟨i, true, o, ancOf masks o, V, tm1, cx1, cx3, tm, s, s3⟩]) ρ2 w2 _ hl' (by simp [hi])
              (Valid.run ⟨i, true, o, ancOf masks o, V, tm1, cx1, cx3, tm, s, s3⟩ hv (by exact hi) rfl rfl st rfl) g2 g5 ht2 hn2 h3
          · exact (runE_fail h2).elim
        · rename_i hvf
          have hvf' : v = false := by simpa using hvf
          subst hvf'
          obtain ⟨hd, h3⟩ := setTm_ok h
          have hU : Rep env ρ undefS undef := ⟨[], rfl, rfl⟩
          obtain ⟨ht2, hn2⟩ := ht1.putT (F := F) hn hd hU
          have st : Step1 P env R F ops masks rs ⟨i, false, o, ancOf masks o, undefS, tm1, cx1, cx1, tm, s, s⟩ :=
            ⟨ho, rfl, hchk.1, hchk.2, hw, hc1, hd, (fun e => by cases e), fun _ => ⟨rfl, rfl⟩⟩
          exact drawOps_trace hR l (i + 1) _ _ _ cx1 _ (tr ++ [⟨i, false, o, ancOf masks o, undefS, tm1, cx1, cx1, tm, s, s⟩]) ρ w _ hl' (by simp [hi])
            (Valid.skip ⟨i, false, o, ancOf masks o, undefS, tm1, cx1, cx1, tm, s, s⟩ hv (by exact hi) rfl rfl st rfl) hc1 hs ht2 hn2 h3
      · exact (runE_fail h).elim

variable {tm0 : T SV} {s0 : St} {tr : List TR} {tm : T SV} {s : St} {masks : T Nat} {rs : List Rec}

theorem Valid.idx (h : Valid P env R F ops tm0 s0 tr tm s masks rs) : ∀ (i : Nat) (t : TR), tr[i]? = some t → t.i = i := by
  induction h with
  | nil => intro i t e; simp at e
  | @run tr tm s masks rs t hv hi _ _ st _ ih | @skip tr tm s masks rs t hv hi _ _ st _ ih =>
    intro j u e
    by_cases hj : j < tr.length
    · rw [List.getElem?_append_left hj] at e
      exact ih j u e
    · have hj2 : j = tr.length := by
        have := (List.getElem?_eq_some_iff.1 e).1
        simp at this; omega
      subst hj2
      simp at e
      subst e
      exact hi

theorem Valid.others (h : Valid P env R F ops tm0 s0 tr tm s masks rs) : ∀ d, d ∉ dstsOf ops → tm.get d = tm0.get d := by
  induction h with
  | nil => intro d _; rfl
  | @run tr tm s masks rs t hv hi e0 _ st _ ih | @skip tr tm s masks rs t hv hi e0 _ st _ ih =>
    intro d hd
    rw [← ih d hd, ← e0]
    exact set_others st.op st.guard hd

theorem Valid.nx (h : Valid P env R F ops tm0 s0 tr tm s masks rs) : ∀ t, t ∈ tr → t.s.nx ≤ t.s1.nx ∧ t.s1.nx ≤ s.nx := by
  induction h with
  | nil => intro t e; simp at e
  | run t hv hi htm hs st hex ih =>
    have g := grows _ (st.run hex).1
    have gn : t.s.nx ≤ t.s1.nx := g.nx
    intro u hu
    simp at hu
    rcases hu with hu | rfl
    · have := ih u hu
      rw [← hs] at this
      exact ⟨this.1, by show u.s1.nx ≤ t.s1.nx; omega⟩
    · exact ⟨gn, Nat.le_refl _⟩
  | skip t hv hi htm hs st hex ih =>
    intro u hu
    simp at hu
    rcases hu with hu | rfl
    · exact ih u hu
    · rw [(st.skip hex).2, hs]
      exact ⟨Nat.le_refl _, Nat.le_refl _⟩

/-- the trace before a record is a trace, and ends where the record begins -/
theorem Valid.pre (h : Valid P env R F ops tm0 s0 tr tm s masks rs) : ∀ (i : Nat) (t : TR), tr[i]? = some t →
    ∃ masks' rs', Valid P env R F ops tm0 s0 (tr.take i) t.tm0 t.s masks' rs' ∧ Step1 P env R F ops masks' rs' t := by
  induction h with
  | nil => intro i t e; simp at e
  | @run tr tm s masks rs t hv hi htm hs st hex ih =>
    intro j u e
    by_cases hj : j < tr.length
    · rw [List.getElem?_append_left hj] at e
      obtain ⟨m', r', h1, h2⟩ := ih j u e
      refine ⟨m', r', ?_, h2⟩
      rw [List.take_append_of_le_length (by omega)]
      exact h1
    · have hj2 : j = tr.length := by
        have := (List.getElem?_eq_some_iff.1 e).1
        simp at this; omega
      subst hj2
      simp at e
      subst e
      refine ⟨masks, rs, ?_, st⟩
      rw [List.take_left', htm, hs]
      · exact hv
      · rfl
  | @skip tr tm s masks rs t hv hi htm hs st hex ih =>
    intro j u e
    by_cases hj : j < tr.length
    · rw [List.getElem?_append_left hj] at e
      obtain ⟨m', r', h1, h2⟩ := ih j u e
      refine ⟨m', r', ?_, h2⟩
      rw [List.take_append_of_le_length (by omega)]
      exact h1
    · have hj2 : j = tr.length := by
        have := (List.getElem?_eq_some_iff.1 e).1
        simp at this; omega
      subst hj2
      simp at e
      subst e
      refine ⟨masks, rs, ?_, st⟩
      rw [List.take_left', htm, hs]
      · exact hv
      · rfl

theorem Valid.masksOf (h : Valid P env R F ops tm0 s0 tr tm s masks rs) : ∀ j, masks.get j = (tr[j]?).map (·.m) := by
  induction h with
  | nil => intro j; simp [T.get_nil]
  | @run tr tm s masks rs t hv hi htm hs st hex ih | @skip tr tm s masks rs t hv hi htm hs st hex ih =>
    intro j
    rw [T.get_set]
    split
    · rename_i hji; rw [hji, hi]; simp
    · rename_i hji
      rw [ih j]
      by_cases hj : j < tr.length
      · rw [List.getElem?_append_left hj]
      · rw [List.getElem?_eq_none (by omega), List.getElem?_eq_none (by simp; omega)]

theorem Valid.recs (h : Valid P env R F ops tm0 s0 tr tm s masks rs) : ∀ t, t ∈ tr → t.ex = true → (⟨t.i, t.lg⟩ : Rec) ∈ rs := by
  induction h with
  | nil => intro t e; simp at e
  | run t hv hi htm hs st hex ih =>
    intro u hu hue
    simp at hu
    rcases hu with hu | rfl
    · exact List.mem_cons_of_mem _ (ih u hu hue)
    · simp
  | skip t hv hi htm hs st hex ih =>
    intro u hu hue
    simp at hu
    rcases hu with hu | rfl
    · exact ih u hu hue
    · rw [hex] at hue; cases hue

theorem Valid.heap (h : Valid P env R F ops tm0 s0 tr tm s masks rs) : ∀ b, s.h.get b = srcH s0.h tr b := by
  induction h with
  | nil => intro b; simp [srcH]
  | run t hv hi htm hs st hex ih =>
    intro b
    rw [srcH_snoc]
    show t.s1.h.get b = _
    split
    · rfl
    · rename_i hna
      rw [← ih b, ← hs]
      have hr := (st.run hex).1
      have hna' : ¬ (t.s1.wr.contains b = true) ∧ ¬ (t.s.nx ≤ b ∧ b < t.s1.nx) := by
        simp only [TR.affB, hex, Bool.true_and, Bool.or_eq_true, Bool.and_eq_true, decide_eq_true_eq, not_or] at hna
        exact hna
      have := keeps _ hr b (by simpa using hna'.1) (by simp [St.inner]; omega) (by simp [St.inner])
      exact this
  | skip t hv hi htm hs st hex ih =>
    intro b
    rw [srcH_snoc, ih b]
    rw [if_neg (by simp [TR.affB, hex])]

theorem GuardS.same {o : Oper} {tmA tmB : T SV} {v : Bool} (h : GuardS env ops tmA tmB o v) : ∀ x sv, tmB.get x = some sv → ∃ sv0, tmA.get x = some sv0 ∧ Same env sv0 sv := by
  intro x sv hx
  rcases h with ⟨_, _, rfl⟩ | ⟨j, want, t, _, _, ⟨b, hb, _, rfl⟩ | ⟨_, _, rfl⟩⟩
  · exact ⟨sv, hx, fun _ _ h => h⟩
  · rw [T.get_set] at hx
    split at hx
    · rename_i hxt
      subst hxt
      cases hx
      exact ⟨_, hb, fun ρ V hV => hV⟩
    · exact ⟨sv, hx, fun _ _ h => h⟩
  · exact ⟨sv, hx, fun _ _ h => h⟩

theorem Valid.slots (h : Valid P env R F ops tm0 s0 tr tm s masks rs) : ∀ x sv, tm.get x = some sv → ∃ sv0, srcT tm0 tr x = some sv0 ∧ Same env sv0 sv := by
  induction h with
  | nil => intro x sv e; exact ⟨sv, by simpa [srcT] using e, fun _ _ h => h⟩
  | @run tr tm s masks rs t hv hi htm hs st hex ih | @skip tr tm s masks rs t hv hi htm hs st hex ih =>
    intro x sv e
    rw [srcT_snoc]
    have old : ∀ sv, t.tm.get x = some sv → ∃ sv0, srcT tm0 tr x = some sv0 ∧ Same env sv0 sv := by
      intro sv e
      obtain ⟨sv1, h1, h2⟩ := st.guard.same x sv e
      rw [htm] at h1
      obtain ⟨sv0, h3, h4⟩ := ih x sv1 h1
      exact ⟨sv0, h3, fun ρ V hV => h2 ρ V (h4 ρ V hV)⟩
    cases hd : t.o.dst with
    | none =>
      rw [if_neg (by simp [TR.affT, hd])]
      rw [hd] at e
      exact old sv e
    | some d =>
      rw [hd] at e
      simp only [setTM, T.get_set] at e
      split at e
      · rename_i hxd
        cases e
        rw [if_pos (by simp [TR.affT, hd, hxd])]
        exact ⟨_, rfl, fun _ _ h => h⟩
      · rename_i hxd
        rw [if_neg (by simp [TR.affT, hd, Ne.symm hxd])]
        exact old sv e

/-! ### two records -/

theorem Valid.last (h : Valid P env R F ops tm0 s0 tr tm s masks rs) {t : TR} (ht : t ∈ tr) : tr[t.i]? = some t ∧ ops[t.i]? = some t.o := by
  obtain ⟨j, hj⟩ := List.mem_iff_getElem?.1 ht
  have := h.idx j t hj
  subst this
  obtain ⟨_, _, _, st⟩ := h.pre _ t hj
  exact ⟨hj, st.op⟩

/-- t before u in the text, both run: u must come behind t, or they touch nothing of each other's -/
theorem Valid.pair (h : Valid P env R F ops tm0 s0 tr tm s masks rs) {t u : TR} (ht : t ∈ tr) (hu : u ∈ tr) (hlt : t.i < u.i) (htx : t.ex = true) (hux : u.ex = true) :
    t.s1.nx ≤ u.s.nx ∧ (u.m.testBit t.i = true ∨ ((∀ b, b ∈ u.s1.tch → b ∉ t.s1.wr) ∧ (∀ b, b ∈ u.s1.wr → b ∉ t.s1.tch) ∧ (∀ b, b ∈ u.s1.tch → ¬ (t.s.nx ≤ b ∧ b < t.s1.nx)))) := by
  obtain ⟨e1, _⟩ := h.last ht
  obtain ⟨e2, _⟩ := h.last hu
  obtain ⟨m', r', hv, st⟩ := h.pre _ u e2
  have htin : t ∈ tr.take u.i := by
    rw [List.mem_iff_getElem?]
    exact ⟨t.i, by rw [List.getElem?_take, if_pos hlt]; exact e1⟩
  refine ⟨(hv.nx t htin).2, ?_⟩
  have hrec := hv.recs t htin htx
  have hap := (st.run hux).2
  have hap := apart1_S hap
  simp only [apartS, List.all_eq_true] at hap
  have := hap _ hrec
  simp only [Bool.or_eq_true, Bool.and_eq_true, Bool.not_eq_true'] at this
  rcases this with h1 | ⟨⟨h1, h2⟩, h3⟩
  · exact .inl h1
  · refine .inr ⟨?_, ?_, ?_⟩
    · intro b hb hb2
      have h9 := List.any_eq_false.1 h1 b hb
      exact h9 (List.any_eq_true.2 ⟨b, hb2, by simp [beq_dec]⟩)
    · intro b hb hb2
      have h9 := List.any_eq_false.1 h2 b hb
      exact h9 (List.any_eq_true.2 ⟨b, hb2, by simp [beq_dec]⟩)
    · intro b hb hb2
      have h9 := List.any_eq_false.1 h3 b hb
      refine h9 ?_
      show (Nat.ble t.s.nx b && Nat.blt b t.s1.nx) = true
      rw [blt_dec]
      simp [Nat.ble_eq, hb2.1, hb2.2]

/-- the same of slots -/
theorem Valid.pairT (h : Valid P env R F ops tm0 s0 tr tm s masks rs) {t u : TR} (ht : t ∈ tr) (hu : u ∈ tr) (hlt : t.i < u.i) :
    u.m.testBit t.i = true ∨ ((∀ d, t.o.dst = some d → d ∉ u.o.looksAt ops) ∧ (∀ d, t.o.dst = some d → u.o.dst ≠ some d) ∧ (∀ d, u.o.dst = some d → d ∉ t.o.looksAt ops)) := by
  obtain ⟨e1, o1⟩ := h.last ht
  obtain ⟨e2, o2⟩ := h.last hu
  obtain ⟨m', r', hv, st⟩ := h.pre _ u e2
  have hap := st.ap2
  simp only [apart2, List.all_eq_true, List.mem_range] at hap
  have := hap _ hlt
  simp only [o1, Bool.or_eq_true] at this
  rcases this with h1 | h1
  · exact .inl h1
  · exact .inr (Oper.apart_spec h1)

theorem anc_spec (masks : T Nat) (o : Oper) (j : Nat) : (ancOf masks o).testBit j = true → ∃ e, e ∈ o.after ∧ Region.binds .any e = true ∧ (j = e.on ∨ ((masks.get e.on).getD 0).testBit j = true) := by
  unfold ancOf
  have gen : ∀ (l : List Edge) (m0 : Nat), (l.foldl (fun m e => if Region.binds .any e then m ||| 2 ^ e.on ||| (masks.get e.on).getD 0 else m) m0).testBit j = true →
      m0.testBit j = true ∨ ∃ e, e ∈ l ∧ Region.binds .any e = true ∧ (j = e.on ∨ ((masks.get e.on).getD 0).testBit j = true) := by
    intro l
    induction l with
    | nil => intro m0 h; exact .inl h
    | cons e l ih =>
      intro m0 h
      simp only [List.foldl_cons] at h
      rcases ih _ h with h1 | ⟨e', he', h2⟩
      · split at h1
        · rename_i hb
          rw [Nat.testBit_or, Nat.testBit_or, Bool.or_eq_true, Bool.or_eq_true] at h1
          rcases h1 with (h1 | h1) | h1
          · exact .inl h1
          · rw [Nat.testBit_two_pow] at h1
            simp at h1
            exact .inr ⟨e, by simp, hb, .inl h1.symm⟩
          · exact .inr ⟨e, by simp, hb, .inr h1⟩
        · exact .inl h1
      · exact .inr ⟨e', by simp [he'], h2⟩
  intro h
  rcases gen _ 0 h with h1 | ⟨e, he, h2⟩
  · simp at h1
  · exact ⟨e, by simpa using he, h2⟩

theorem Valid.anc (h : Valid P env R F ops tm0 s0 tr tm s masks rs) {t : TR} (ht : t ∈ tr) {j : Nat} (hj : t.m.testBit j = true) :
    ∃ e, e ∈ t.o.after ∧ Region.binds .any e = true ∧ e.on < t.i ∧ (j = e.on ∨ ∃ u, u ∈ tr ∧ u.i = e.on ∧ u.m.testBit j = true) := by
  obtain ⟨e2, _⟩ := h.last ht
  obtain ⟨m', r', hv, st⟩ := h.pre _ t e2
  rw [st.m] at hj
  obtain ⟨e, he, hb, hor⟩ := anc_spec _ _ _ hj
  have hlow : e.on < t.i := by
    have := st.edges
    unfold edgesLow at this
    rw [Array.all_eq_true_iff_forall_mem] at this
    have := this e he
    simp [hb, blt_dec] at this
    exact this
  refine ⟨e, he, hb, hlow, ?_⟩
  rcases hor with h1 | h1
  · exact .inl h1
  · rw [hv.masksOf] at h1
    cases hu : (tr.take t.i)[e.on]? with
    | none => rw [hu] at h1; simp at h1
    | some u =>
      rw [hu] at h1
      have hi := hv.idx _ _ hu
      exact .inr ⟨u, List.mem_of_mem_take (List.mem_of_getElem? hu), hi, h1⟩

theorem Valid.low (h : Valid P env R F ops tm0 s0 tr tm s masks rs) {t : TR} (ht : t ∈ tr) (hx : t.ex = true) : (∀ b, b ∈ t.s1.tch → b < t.s.nx) ∧ (∀ b, b ∈ t.s1.wr → b ∈ t.s1.tch) ∧ t.s.nx ≤ t.s1.nx := by
  obtain ⟨e2, _⟩ := h.last ht
  obtain ⟨m', r', hv, st⟩ := h.pre _ t e2
  have g := grows _ (st.run hx).1
  refine ⟨?_, ?_, g.nx⟩
  · intro b hb
    rcases g.low b hb with h1 | h1
    · simp [St.inner] at h1
    · exact h1
  · intro b hb
    rcases g.sub b hb with h1 | h1
    · simp [St.inner] at h1
    · exact h1
end

/-- two lists in rising order with the same members are one -/
theorem eq_of_rising : ∀ {l l' : List TR}, l.Pairwise (fun a b => a.i < b.i) → l'.Pairwise (fun a b => a.i < b.i) → (∀ t, t ∈ l ↔ t ∈ l') → l = l'
  | [], [], _, _, _ => rfl
  | [], b :: l', _, _, h => by have := (h b).2 (by simp); simp at this
  | a :: l, [], _, _, h => by have := (h a).1 (by simp); simp at this
  | a :: l, b :: l', h1, h2, h => by
      have h1' := List.pairwise_cons.1 h1
      have h2' := List.pairwise_cons.1 h2
      have hab : a = b := by
        have ha := (h a).1 (by simp)
        have hb := (h b).2 (by simp)
        rcases List.mem_cons.1 ha with e | ha
        · exact e
        · rcases List.mem_cons.1 hb with e | hb
          · exact e.symm
          · have x := h2'.1 a ha
            have y := h1'.1 b hb
            omega
      subst hab
      congr 1
      refine eq_of_rising h1'.2 h2'.2 fun t => ⟨fun ht => ?_, fun ht => ?_⟩
      · rcases List.mem_cons.1 ((h t).1 (by simp [ht])) with e | h3
        · subst e; have := h1'.1 t ht; omega
        · exact h3
      · rcases List.mem_cons.1 ((h t).2 (by simp [ht])) with e | h3
        · subst e; have := h2'.1 t ht; omega
        · exact h3

end Go.SX

namespace Go.SX
open Go Go.RowKit
set_option linter.unusedVariables false
set_option linter.unusedSimpArgs false
set_option linter.unusedSectionVars false

theorem HS.ext {env : Env} {ρ : Pl} {B : Nat} {h h' : T Blk} {w : World} (hs : HS env ρ B h w) (he : ∀ b, h'.get b = h.get b) : HS env ρ B h' w :=
  ⟨fun b v hb => hs.blk b v (by rw [← he]; exact hb), fun b p e => by rw [he]; exact hs.dom b p e, fun b b' r o o' e e' hr hd hd' => hs.inj b b' r o o' e e' hr (by rw [← he]; exact hd) (by rw [← he]; exact hd'), hs.size, fun b v hb => hs.wf b v (by rw [← he]; exact hb), hs.rows⟩

section
variable {P : Program} {env : Env} {R : Run} {F : FI} {ops : Array Oper} {B : Nat}
variable {tm0 : T SV} {s0 : St} {tr : List TR} {tm : T SV} {s : St} {masks : T Nat} {rs : List Rec}

theorem Valid.rising (h : Valid P env R F ops tm0 s0 tr tm s masks rs) : tr.Pairwise (fun a b => a.i < b.i) := by
  rw [List.pairwise_iff_getElem]
  intro i j hi hj hij
  have e1 := h.idx i _ (List.getElem?_eq_getElem hi)
  have e2 := h.idx j _ (List.getElem?_eq_getElem hj)
  omega

theorem Valid.inj (h : Valid P env R F ops tm0 s0 tr tm s masks rs) {t u : TR} (ht : t ∈ tr) (hu : u ∈ tr) (e : t.i = u.i) : t = u := by
  have h1 := (h.last ht).1
  have h2 := (h.last hu).1
  rw [e] at h1
  rw [h1] at h2
  cases h2
  rfl

/-- what has run, in the machine's order -/
structure Inv (env : Env) (F : FI) (B : Nat) (ops : Array Oper) (tm0 : T SV) (s0 : St) (tr LR : List TR) (hL : T Blk) (ρ : Pl) (w : World) (tmps : Array Value) : Prop where
  mem : ∀ u, u ∈ LR → u ∈ tr
  clo : ∀ u, u ∈ LR → ∀ t, t ∈ tr → u.m.testBit t.i = true → t ∈ LR
  sB : ∀ b, (LR.filter (TR.affB b)).Pairwise (fun a b => a.i < b.i)
  sT : ∀ x, (LR.filter (TR.affT x)).Pairwise (fun a b => a.i < b.i)
  hs : HS env ρ B hL w
  hH : ∀ b, hL.get b = srcH s0.h LR b
  hT : ∀ x sv, srcT tm0 LR x = some sv → ∃ V, tmps[x]? = some V ∧ Rep env ρ sv V
  hn : tmps.size = F.nt

variable {LR : List TR} {hL : T Blk} {ρ : Pl} {w : World} {tmps : Array Value}

theorem affB_iff {b : Nat} {t : TR} : t.affB b = true ↔ t.ex = true ∧ (b ∈ t.s1.wr ∨ (t.s.nx ≤ b ∧ b < t.s1.nx)) := by
  simp [TR.affB]
theorem affT_iff {x : Nat} {t : TR} : t.affT x = true ↔ t.o.dst = some x := by simp [TR.affT]

/-- behind the text's place of t there is nothing in LR that touches what t touches -/
theorem Inv.later (hi : Inv env F B ops tm0 s0 tr LR hL ρ w tmps) (hv : Valid P env R F ops tm0 s0 tr tm s masks rs) {t u : TR} (ht : t ∈ tr) (htn : t ∉ LR) (hu : u ∈ LR) (hlt : t.i < u.i) (hex : t.ex = true) {b : Nat}
    (hua : u.affB b = true) (htb : b ∈ t.s1.tch ∨ (t.s.nx ≤ b ∧ b < t.s1.nx)) : False := by
  obtain ⟨hux, hua⟩ := affB_iff.1 hua
  obtain ⟨hnx, hp⟩ := hv.pair ht (hi.mem u hu) hlt hex hux
  obtain ⟨l1, l2, l3⟩ := hv.low ht hex
  obtain ⟨k1, k2, k3⟩ := hv.low (hi.mem u hu) hux
  rcases hp with hp | ⟨p1, p2, p3⟩
  · exact htn (hi.clo u hu t ht hp)
  · rcases hua with hw | hw
    · rcases htb with hb | hb
      · exact p2 b hw hb
      · exact p3 b (k2 b hw) hb
    · rcases htb with hb | hb
      · have := l1 b hb; omega
      · omega

/-- what stands in the text before t and touches what t reads has run -/
theorem Inv.sooner (hv : Valid P env R F ops tm0 s0 tr tm s masks rs) {t u : TR} (ht : t ∈ tr) (hu : u ∈ tr) (hlt : u.i < t.i) (hex : t.ex = true) {b : Nat}
    (hua : u.affB b = true) (htb : b ∈ t.s1.tch ∨ (t.s.nx ≤ b ∧ b < t.s1.nx)) (hanc : t.m.testBit u.i = true → u ∈ LR) : u ∈ LR := by
  obtain ⟨hux, hua⟩ := affB_iff.1 hua
  obtain ⟨hnx, hp⟩ := hv.pair hu ht hlt hux hex
  obtain ⟨k1, k2, k3⟩ := hv.low hu hux
  rcases hp with hp | ⟨p1, p2, p3⟩
  · exact hanc hp
  · exfalso
    rcases htb with hb | hb
    · rcases hua with hw | hw
      · exact p1 b hb hw
      · exact p3 b hb hw
    · rcases hua with hw | hw
      · have := k1 b (k2 b hw); omega
      · omega

theorem mem_take {t u : TR} (hv : Valid P env R F ops tm0 s0 tr tm s masks rs) (ht : t ∈ tr) : u ∈ tr.take t.i ↔ u ∈ tr ∧ u.i < t.i := by
  constructor
  · intro h
    obtain ⟨j, hj⟩ := List.mem_iff_getElem?.1 h
    rw [List.getElem?_take] at hj
    split at hj
    · rename_i hlt
      have := hv.idx j u hj
      exact ⟨List.mem_of_getElem? hj, by omega⟩
    · cases hj
  · rintro ⟨h1, h2⟩
    rw [List.mem_iff_getElem?]
    exact ⟨u.i, by rw [List.getElem?_take, if_pos h2]; exact (hv.last h1).1⟩

/-- all that must come before t has come -/
theorem Inv.before (hi : Inv env F B ops tm0 s0 tr LR hL ρ w tmps) (hv : Valid P env R F ops tm0 s0 tr tm s masks rs) {t : TR} (ht : t ∈ tr)
    (hready : ∀ e, e ∈ t.o.after → Region.binds .any e = true → ∃ u, u ∈ LR ∧ u.i = e.on) {u : TR} (hu : u ∈ tr) (hb : t.m.testBit u.i = true) : u ∈ LR := by
  obtain ⟨e, he, hbind, hlow, hor⟩ := hv.anc ht hb
  obtain ⟨x, hx, hxi⟩ := hready e he hbind
  rcases hor with h1 | ⟨y, hy, hyi, hyb⟩
  · have : u = x := hv.inj hu (hi.mem x hx) (by rw [h1, hxi])
    rw [this]; exact hx
  · have : y = x := hv.inj hy (hi.mem x hx) (by rw [hyi, hxi])
    subst this
    exact hi.clo y hx u hu hyb

theorem Inv.readB (hi : Inv env F B ops tm0 s0 tr LR hL ρ w tmps) (hv : Valid P env R F ops tm0 s0 tr tm s masks rs) {t : TR} (ht : t ∈ tr) (htn : t ∉ LR) (hex : t.ex = true)
    (hready : ∀ e, e ∈ t.o.after → Region.binds .any e = true → ∃ u, u ∈ LR ∧ u.i = e.on) {b : Nat} (hb : b ∈ t.s1.tch ∨ (t.s.nx ≤ b ∧ b < t.s1.nx)) : hL.get b = t.s.h.get b := by
  obtain ⟨m', r', hvp, st⟩ := hv.pre _ t (hv.last ht).1
  rw [hi.hH b, hvp.heap b]
  unfold srcH
  have : LR.filter (TR.affB b) = (tr.take t.i).filter (TR.affB b) := by
    refine eq_of_rising (hi.sB b) (hvp.rising.filter _) fun u => ?_
    rw [List.mem_filter, List.mem_filter, mem_take hv ht]
    constructor
    · rintro ⟨h1, h2⟩
      refine ⟨⟨hi.mem u h1, ?_⟩, h2⟩
      rcases Nat.lt_trichotomy u.i t.i with h3 | h3 | h3
      · exact h3
      · have := hv.inj (hi.mem u h1) ht h3
        subst this
        exact absurd h1 htn
      · exact (hi.later hv ht htn h1 h3 hex h2 hb).elim
    · rintro ⟨⟨h1, h3⟩, h2⟩
      exact ⟨Inv.sooner (LR := LR) hv ht h1 h3 hex h2 hb (hi.before hv ht hready h1), h2⟩
  rw [this]

theorem Inv.readT (hi : Inv env F B ops tm0 s0 tr LR hL ρ w tmps) (hv : Valid P env R F ops tm0 s0 tr tm s masks rs) {t : TR} (ht : t ∈ tr) (htn : t ∉ LR)
    (hready : ∀ e, e ∈ t.o.after → Region.binds .any e = true → ∃ u, u ∈ LR ∧ u.i = e.on) {x : Nat} (hx : x ∈ t.o.looksAt ops) : srcT tm0 LR x = srcT tm0 (tr.take t.i) x := by
  obtain ⟨m', r', hvp, st⟩ := hv.pre _ t (hv.last ht).1
  unfold srcT
  have : LR.filter (TR.affT x) = (tr.take t.i).filter (TR.affT x) := by
    refine eq_of_rising (hi.sT x) (hvp.rising.filter _) fun u => ?_
    rw [List.mem_filter, List.mem_filter, mem_take hv ht]
    constructor
    · rintro ⟨h1, h2⟩
      refine ⟨⟨hi.mem u h1, ?_⟩, h2⟩
      rcases Nat.lt_trichotomy u.i t.i with h3 | h3 | h3
      · exact h3
      · have := hv.inj (hi.mem u h1) ht h3
        subst this
        exact absurd h1 htn
      · rcases hv.pairT ht (hi.mem u h1) h3 with h4 | ⟨_, _, h4⟩
        · exact absurd (hi.clo u h1 t ht h4) htn
        · exact absurd hx (h4 x (affT_iff.1 h2))
    · rintro ⟨⟨h1, h3⟩, h2⟩
      refine ⟨?_, h2⟩
      rcases hv.pairT h1 ht h3 with h4 | ⟨h4, _, _⟩
      · exact hi.before hv ht hready h1 h4
      · exact absurd hx (h4 x (affT_iff.1 h2))
  rw [this]

/-- the slots that t's operation reads -/
theorem Inv.slots (hi : Inv env F B ops tm0 s0 tr LR hL ρ w tmps) (hv : Valid P env R F ops tm0 s0 tr tm s masks rs) {t : TR} (ht : t ∈ tr) (htn : t ∉ LR)
    (hready : ∀ e, e ∈ t.o.after → Region.binds .any e = true → ∃ u, u ∈ LR ∧ u.i = e.on) {x : Nat} (hx : x ∈ t.o.looksAt ops) {sv : SV} (hsv : t.tm0.get x = some sv) : ∃ V, tmps[x]? = some V ∧ Rep env ρ sv V := by
  obtain ⟨m', r', hvp, st⟩ := hv.pre _ t (hv.last ht).1
  obtain ⟨sv0, h1, h2⟩ := hvp.slots x sv hsv
  rw [← hi.readT hv ht htn hready hx] at h1
  obtain ⟨V, h3, h4⟩ := hi.hT x sv0 h1
  exact ⟨V, h3, h2 ρ V h4⟩

theorem Inv.sBnext (hi : Inv env F B ops tm0 s0 tr LR hL ρ w tmps) (hv : Valid P env R F ops tm0 s0 tr tm s masks rs) {t : TR} (ht : t ∈ tr) (htn : t ∉ LR) (b : Nat) :
    ((LR ++ [t]).filter (TR.affB b)).Pairwise (fun a b => a.i < b.i) := by
  rw [List.filter_append]
  cases h : t.affB b with
  | false => simp [h, hi.sB b]
  | true =>
    simp only [List.filter_cons, h, if_true, List.filter_nil]
    rw [List.pairwise_append]
    refine ⟨hi.sB b, by simp, ?_⟩
    intro u hu t' ht'
    simp only [List.mem_singleton] at ht'
    subst ht'
    obtain ⟨hu1, hu2⟩ := List.mem_filter.1 hu
    obtain ⟨hex, htb⟩ := affB_iff.1 h
    rcases Nat.lt_trichotomy u.i t'.i with h3 | h3 | h3
    · exact h3
    · have := hv.inj (hi.mem u hu1) ht h3
      subst this
      exact absurd hu1 htn
    · refine (hi.later hv ht htn hu1 h3 hex hu2 ?_).elim
      rcases htb with htb | htb
      · exact .inl ((hv.low ht hex).2.1 b htb)
      · exact .inr htb

theorem Inv.sTnext (hi : Inv env F B ops tm0 s0 tr LR hL ρ w tmps) (hv : Valid P env R F ops tm0 s0 tr tm s masks rs) {t : TR} (ht : t ∈ tr) (htn : t ∉ LR) (x : Nat) :
    ((LR ++ [t]).filter (TR.affT x)).Pairwise (fun a b => a.i < b.i) := by
  rw [List.filter_append]
  cases h : t.affT x with
  | false => simp [h, hi.sT x]
  | true =>
    simp only [List.filter_cons, h, if_true, List.filter_nil]
    rw [List.pairwise_append]
    refine ⟨hi.sT x, by simp, ?_⟩
    intro u hu t' ht'
    simp only [List.mem_singleton] at ht'
    subst ht'
    obtain ⟨hu1, hu2⟩ := List.mem_filter.1 hu
    rcases Nat.lt_trichotomy u.i t'.i with h3 | h3 | h3
    · exact h3
    · have := hv.inj (hi.mem u hu1) ht h3
      subst this
      exact absurd hu1 htn
    · rcases hv.pairT ht (hi.mem u hu1) h3 with h4 | ⟨_, h4, _⟩
      · exact absurd (hi.clo u hu1 t' ht h4) htn
      · exact absurd (affT_iff.1 hu2) (h4 x (affT_iff.1 h))

/-- one more operation, in the machine's order -/
theorem Inv.next (hR : CallOK P env B R) (hi : Inv env F B ops tm0 s0 tr LR hL ρ w tmps) (hv : Valid P env R F ops tm0 s0 tr tm s masks rs) {t : TR} (ht : t ∈ tr) (htn : t ∉ LR)
    (hready : ∀ e, e ∈ t.o.after → Region.binds .any e = true → ∃ u, u ∈ LR ∧ u.i = e.on) {fn : Nat} {rd : Option Nat} {df : List Deferred} {k : List Item} (rest : List Nat) (cs : List Frame) :
    ∃ hL' ρ' w' tmps', Inv env F B ops tm0 s0 tr (LR ++ [t]) hL' ρ' w' tmps' ∧ ρ.le ρ' ∧ Below B w w' ∧
      Steps P (lone (mkF fn rd tmps df (.inRegion ops (t.i :: rest) :: k)) cs w) (lone (mkF fn rd tmps' df (.inRegion ops rest :: k)) cs w') := by
  obtain ⟨_, ho⟩ := hv.last ht
  obtain ⟨m', r', hvp, st⟩ := hv.pre _ t (hv.last ht).1
  have hclo : ∀ u, u ∈ LR ++ [t] → ∀ x, x ∈ tr → u.m.testBit x.i = true → x ∈ LR ++ [t] := by
    intro u hu x hx hb
    rw [List.mem_append] at hu ⊢
    rcases hu with hu | hu
    · exact .inl (hi.clo u hu x hx hb)
    · simp only [List.mem_singleton] at hu
      subst hu
      exact .inl (hi.before hv ht hready hx hb)
  have hmem : ∀ u, u ∈ LR ++ [t] → u ∈ tr := by
    intro u hu
    rw [List.mem_append] at hu
    rcases hu with hu | hu
    · exact hi.mem u hu
    · simp only [List.mem_singleton] at hu
      subst hu
      exact ht
  -- the guard
  have hwant : Region.wanted t.o (yielded ops tmps) = t.ex := by
    rcases st.guard with ⟨hg, hex, _⟩ | ⟨j, want, x, hg, hd, hor⟩
    · simp [Region.wanted, hg, hex]
    · have hx : x ∈ t.o.looksAt ops := by
        unfold Oper.looksAt
        rw [hg]
        simp [hd]
      rcases hor with ⟨b, hb, hex, _⟩ | ⟨hb, hex, _⟩
      · obtain ⟨V, hV, hr⟩ := hi.slots hv ht htn hready hx hb
        exact wanted_of (env := env) (ρ := ρ) hg hd hV (.inl ⟨_, hr, hex⟩)
      · obtain ⟨V, hV, hr⟩ := hi.slots hv ht htn hready hx hb
        obtain ⟨vs, hvs, rfl⟩ := hr
        rw [show vs = [] from hvs] at hV
        exact wanted_of (env := env) (ρ := ρ) hg hd hV (.inr ⟨rfl, hex⟩)
  have hTnext : ∀ (ρ' : Pl) (V : Value), ρ.le ρ' → Rep env ρ' t.v V → ∀ x sv, srcT tm0 (LR ++ [t]) x = some sv → ∃ V', (putT tmps t.o.dst V)[x]? = some V' ∧ Rep env ρ' sv V' := by
    intro ρ' V hle hV x sv hsv
    rw [srcT_snoc] at hsv
    split at hsv
    · rename_i hax
      cases hsv
      have hd := affT_iff.1 hax
      rw [hd]
      refine ⟨V, ?_, hV⟩
      have := st.dst x hd
      rw [← hi.hn] at this
      simp [putT, this]
    · rename_i hax
      obtain ⟨V', h1, h2⟩ := hi.hT x sv hsv
      refine ⟨V', ?_, h2.mono hle⟩
      cases hd : t.o.dst with
      | none => exact h1
      | some d =>
        have hne : d ≠ x := fun e => hax (affT_iff.2 (by rw [hd, e]))
        show (tmps.setIfInBounds d V)[x]? = _
        rw [Array.getElem?_setIfInBounds_ne hne]
        exact h1
  have hsize : ∀ V, (putT tmps t.o.dst V).size = F.nt := by
    intro V
    cases t.o.dst with
    | none => exact hi.hn
    | some d => simp [putT, hi.hn]
  cases hex : t.ex with
  | false =>
    obtain ⟨hv0, hs0⟩ := st.skip hex
    have hU : Rep env ρ t.v undef := by rw [hv0]; exact ⟨[], rfl, rfl⟩
    refine ⟨hL, ρ, w, putT tmps t.o.dst undef, ⟨hmem, hclo, hi.sBnext hv ht htn, hi.sTnext hv ht htn, hi.hs, ?_, hTnext ρ undef ρ.le_refl hU, hsize _⟩, ρ.le_refl, Below.refl _ _, ?_⟩
    · intro b
      rw [srcH_snoc, if_neg (by simp [TR.affB, hex]), hi.hH b]
    · rw [hex] at hwant
      have := st_opSkip (P := P) (fn := fn) (rd := rd) (tmps := tmps) (df := df) (k := k) (cs := cs) (w := w) (rest := rest) ho hwant
      rw [finish_mkF, ho] at this
      exact .one this
  | true =>
    rw [hex] at hwant
    obtain ⟨hrun, _⟩ := st.run hex
    obtain ⟨l1, l2, l3⟩ := hv.low ht hex
    obtain ⟨s2', f1, f2, f3, f4, f5, f6⟩ := frame _ hrun (by simp [St.inner]) rfl ⟨hL, t.s.nx, t.s.nx, [], [], false⟩ rfl rfl rfl rfl rfl (by
      intro b hb
      exact hi.readB hv ht htn hex hready hb)
    have hev : EvOK env ρ t.tm (actOf tmps).eval t.o.op.operands.toList := by
      intro x hx sv hsv
      cases x with
      | tmp y =>
        have hy : y ∈ t.o.looksAt ops := List.mem_append_left _ (List.mem_filterMap.2 ⟨.tmp y, hx, rfl⟩)
        obtain ⟨sv1, g1, g2⟩ := st.guard.same y sv hsv
        obtain ⟨V, h3, h4⟩ := hi.slots hv ht htn hready hy g1
        have : (actOf tmps).eval (.tmp y) = V := by simp [Act.eval, actOf, Array.getD_eq_getD_getElem?, h3]
        rw [this]
        exact g2 ρ V h4
      | const v => exact ofV_ok hsv
      | global g => cases hsv
      | func f => cases hsv; exact ⟨.func f, [], [], rfl, rfl, rfl, rfl⟩
    obtain ⟨v, cx', s', ρ', V, w', g1, g2, g3, g4, g5, g6, g7⟩ := doOp_ok hR (kk := leafK) f1 st.cx (ρ := ρ) (w := w) hi.hs (fn := fn) (rd := rd) (df := df) (rest := rest) (k := k) ho hwant hev cs
    have hsame : v = t.v ∧ s' = s2' := by
      simp only [leafK, runE, run, PT.at, Option.some.injEq, Prod.mk.injEq, Out.val.injEq] at g1
      exact ⟨g1.1.1, g1.2⟩
    obtain ⟨rfl, rfl⟩ := hsame
    refine ⟨s'.h, ρ', w', putT tmps t.o.dst V, ⟨hmem, hclo, hi.sBnext hv ht htn, hi.sTnext hv ht htn, g5, ?_, hTnext ρ' V g3 g4, hsize _⟩, g3, g6, g7⟩
    intro b
    rw [srcH_snoc]
    split
    · rename_i hab
      obtain ⟨_, hab⟩ := affB_iff.1 hab
      refine f6 b ?_
      rcases hab with hab | hab
      · exact .inl (l2 b hab)
      · exact .inr hab
    · rename_i hab
      rw [← hi.hH b]
      have hab' : ¬ (b ∈ t.s1.wr) ∧ ¬ (t.s.nx ≤ b ∧ b < t.s1.nx) := by
        constructor
        · intro e; exact hab (affB_iff.2 ⟨hex, .inl e⟩)
        · intro e; exact hab (affB_iff.2 ⟨hex, .inr e⟩)
      have := keeps _ f1 b (by rw [f5]; exact hab'.1) (by rw [f2]; show b < t.s.nx ∨ t.s1.nx ≤ b; omega) (by simp)
      exact this

/-- all orders of the region -/
theorem Inv.all (hR : CallOK P env B R) (hv : Valid P env R F ops tm0 s0 tr tm s masks rs) (hlen : tr.length = ops.size) {fn : Nat} {rd : Option Nat} {df : List Deferred} {k : List Item} (cs : List Frame) :
    ∀ (fuel t : Nat) (listed : Array Bool) (left : List Nat) (LR : List TR) (hL : T Blk) (ρ : Pl) (w : World) (tmps : Array Value),
      Inv env F B ops tm0 s0 tr LR hL ρ w tmps → listed.size = ops.size → left.Nodup → left.length = fuel → (∀ j, j ∈ left ↔ j < ops.size ∧ listed.getD j false = false) →
      (∀ t, t ∈ tr → (t ∈ LR ↔ listed.getD t.i false = true)) →
      ∃ LR' hL' ρ' w' tmps', Inv env F B ops tm0 s0 tr LR' hL' ρ' w' tmps' ∧ (∀ t, t ∈ tr → t ∈ LR') ∧ ρ.le ρ' ∧ Below B w w' ∧
        Steps P (lone (mkF fn rd tmps df (.inRegion ops (Region.linearise.go .any ops fuel t listed []) :: k)) cs w) (lone (mkF fn rd tmps' df k) cs w')
  | 0, t, listed, left, LR, hL, ρ, w, tmps, hi, hsz, hnd, hfl, hleft, hlst => by
      refine ⟨LR, hL, ρ, w, tmps, hi, ?_, ρ.le_refl, Below.refl _ _, ?_⟩
      · intro u hu
        rw [hlst u hu]
        have hnil : left = [] := by simpa using hfl
        have hlt : u.i < ops.size := (Array.getElem?_eq_some_iff.1 (hv.last hu).2).1
        cases hc : listed.getD u.i false with
        | true => rfl
        | false => have := (hleft u.i).2 ⟨hlt, hc⟩; rw [hnil] at this; simp at this
      · simp only [Region.linearise.go, List.reverse_nil]
        exact .one st_regionEnd
  | fuel + 1, t, listed, left, LR, hL, ρ, w, tmps, hi, hsz, hnd, hfl, hleft, hlst => by
      -- something is ready: the least of those that are left
      have hmin : ∀ (l : List Nat), l ≠ [] → ∃ i, i ∈ l ∧ ∀ j, j ∈ l → i ≤ j := by
        intro l
        induction l with
        | nil => intro h; exact absurd rfl h
        | cons a l ih =>
          intro _
          by_cases hl : l = []
          · subst hl; exact ⟨a, by simp, by simp⟩
          · obtain ⟨i, hi, hle⟩ := ih hl
            by_cases hai : a ≤ i
            · refine ⟨a, by simp, fun j hj => ?_⟩
              rcases List.mem_cons.1 hj with rfl | hj
              · exact Nat.le_refl _
              · have := hle j hj; omega
            · refine ⟨i, by simp [hi], fun j hj => ?_⟩
              rcases List.mem_cons.1 hj with rfl | hj
              · omega
              · exact hle j hj
      have hgetD : ∀ j, j < ops.size → ∀ d d', listed.getD j d = listed.getD j d' := by
        intro j hj d d'
        rw [Array.getD_eq_getD_getElem?, Array.getD_eq_getD_getElem?, Array.getElem?_eq_getElem (by omega)]
        rfl
      have hrec : ∀ j, j < ops.size → ∃ u, u ∈ tr ∧ u.i = j := by
        intro j hj
        have hj' : j < tr.length := by omega
        exact ⟨tr[j], List.getElem_mem hj', hv.idx j _ (List.getElem?_eq_getElem hj')⟩
      have hne : Region.ready .any ops listed ≠ [] := by
        have hl : left ≠ [] := by intro e; rw [e] at hfl; simp at hfl
        obtain ⟨i, hi1, hi2⟩ := hmin left hl
        obtain ⟨hlt, hf⟩ := (hleft i).1 hi1
        obtain ⟨u, hu, hui⟩ := hrec i hlt
        obtain ⟨m', r', hvp, st⟩ := hv.pre _ u (hv.last hu).1
        have hin : i ∈ Region.ready .any ops listed := by
          rw [mem_ready]
          refine ⟨by rw [hgetD i hlt true false]; exact hf, u.o, by rw [← hui]; exact (hv.last hu).2, ?_⟩
          intro e he hb
          have hlow := st.edges
          unfold edgesLow at hlow
          rw [Array.all_eq_true_iff_forall_mem] at hlow
          have h9 := hlow e he
          simp [hb, blt_dec] at h9
          cases hc : listed.getD e.on false with
          | true => rfl
          | false =>
            have := hi2 e.on ((hleft e.on).2 ⟨by omega, hc⟩)
            omega
        intro e
        rw [e] at hin
        simp at hin
      simp only [Region.linearise.go]
      change ∃ LR' hL' ρ' w' tmps', _ ∧ _ ∧ _ ∧ _ ∧ Steps P (lone (mkF fn rd tmps df (.inRegion ops (match (Region.ready .any ops listed)[t % (Region.ready .any ops listed).length]? with
        | some i => Region.linearise.go .any ops fuel (t / (Region.ready .any ops listed).length) (listed.setIfInBounds i true) [i]
        | none => [].reverse) :: k)) cs w) _
      cases hp : (Region.ready .any ops listed)[t % (Region.ready .any ops listed).length]? with
      | none =>
        have hlt : t % (Region.ready .any ops listed).length < (Region.ready .any ops listed).length := Nat.mod_lt _ (by
          cases hr : Region.ready .any ops listed with
          | nil => exact absurd hr hne
          | cons x xs => simp)
        rw [List.getElem?_eq_none_iff] at hp
        omega
      | some i =>
        have hin := List.mem_of_getElem? hp
        obtain ⟨hf, o, ho, hedges⟩ := mem_ready.1 hin
        have hlt : i < ops.size := (Array.getElem?_eq_some_iff.1 ho).1
        obtain ⟨u, hu, hui⟩ := hrec i hlt
        subst hui
        have huo : u.o = o := by
          have := (hv.last hu).2
          rw [ho] at this
          cases this
          rfl
        subst huo
        have hun : u ∉ LR := by
          intro e
          have := (hlst u hu).1 e
          rw [hgetD u.i hlt false true, hf] at this
          cases this
        have hready : ∀ e, e ∈ u.o.after → Region.binds .any e = true → ∃ x, x ∈ LR ∧ x.i = e.on := by
          intro e he hb
          have h1 := hedges e he hb
          have hlt2 : e.on < ops.size := by
            rcases Nat.lt_or_ge e.on listed.size with h2 | h2
            · omega
            · rw [Array.getD_eq_getD_getElem?, Array.getElem?_eq_none h2] at h1
              cases h1
          obtain ⟨x, hx, hxi⟩ := hrec e.on hlt2
          exact ⟨x, (hlst x hx).2 (by rw [hxi]; exact h1), hxi⟩
        obtain ⟨hL1, ρ1, w1, tmps1, hi1, hle1, hb1, hst1⟩ := hi.next hR hv hu hun hready (fn := fn) (rd := rd) (df := df) (k := k)
          (Region.linearise.go .any ops fuel (t / (Region.ready .any ops listed).length) (listed.setIfInBounds u.i true) []) cs
        have hset : ∀ j, j < ops.size → (listed.setIfInBounds u.i true).getD j false = (if j = u.i then true else listed.getD j false) := by
          intro j hj
          by_cases hju : j = u.i
          · subst hju
            simp [Array.getD_eq_getD_getElem?, show u.i < listed.size by omega]
          · rw [if_neg hju]
            exact getD_set_ne false (Ne.symm hju)
        obtain ⟨LR', hL', ρ', w', tmps', q1, q2, q3, q4, q5⟩ := Inv.all hR hv hlen (fn := fn) (rd := rd) (df := df) (k := k) cs fuel (t / (Region.ready .any ops listed).length) (listed.setIfInBounds u.i true) (left.erase u.i) (LR ++ [u]) hL1 ρ1 w1 tmps1
          hi1 (by simp [hsz]) (hnd.erase _) (by rw [List.length_erase_of_mem ((hleft u.i).2 ⟨hlt, by rw [hgetD u.i hlt false true]; exact hf⟩)]; omega)
          (by
            intro j
            rw [hnd.mem_erase_iff, hleft j]
            constructor
            · rintro ⟨h1, h2, h3⟩
              exact ⟨h2, by rw [hset j h2, if_neg h1]; exact h3⟩
            · rintro ⟨h2, h3⟩
              rw [hset j h2] at h3
              split at h3
              · cases h3
              · rename_i h1; exact ⟨h1, h2, h3⟩)
          (by
            intro x hx
            have hxl : x.i < ops.size := (Array.getElem?_eq_some_iff.1 (hv.last hx).2).1
            rw [hset x.i hxl, List.mem_append]
            constructor
            · rintro (h1 | h1)
              · split
                · rfl
                · exact (hlst x hx).1 h1
              · simp only [List.mem_singleton] at h1
                subst h1
                simp
            · intro h1
              split at h1
              · rename_i he
                have := hv.inj hx hu he
                subst this
                simp
              · exact .inl ((hlst x hx).2 h1))
        refine ⟨LR', hL', ρ', w', tmps', q1, q2, Pl.le_trans hle1 q3, hb1.trans q4, ?_⟩
        simp only []
        rw [linearise_go_acc, List.reverse_singleton, List.singleton_append]
        exact hst1.trans q5

/-- a region whose order is open -/
theorem drawOps_ok (hmix : P.follows .mixedOrders = true) (hR : CallOK P env B R) {kk : T SV → Ctx → Tree} {r : Out × St} {tm : T SV} {cx : Ctx} {s : St} (h : runE env (drawOps P R F ops kk ops.toList 0 .nil [] tm cx) s = some r)
    (hc : cx.ok env) {ρ : Pl} {w : World} {tmps : Array Value} (hs : HS env ρ B s.h w) (ht : TS env ρ tm tmps) (hn : tmps.size = F.nt) {fn : Nat} {rd : Option Nat} {df : List Deferred} {k : List Item} (id : Nat) (cs : List Frame) :
    ∃ tm' cx' s' ρ' w' tmps', runE env (kk tm' cx') s' = some r ∧ cx'.ok env ∧ ρ.le ρ' ∧ HS env ρ' B s'.h w' ∧ Below B w w' ∧ TS env ρ' tm' tmps' ∧ tmps'.size = F.nt ∧ (∀ d, d ∉ dstsOf ops → tm'.get d = tm.get d) ∧
      Steps P (lone (mkF fn rd tmps df (.code (.region id ops true) :: k)) cs w) (lone (mkF fn rd tmps' df k) cs w') := by
  obtain ⟨tr, tm', s', masks, rs, cx', hv, hlen, hc', h⟩ := drawOps_trace (F := F) hR (tm0 := tm) (s0 := s) ops.toList 0 .nil [] tm cx s [] ρ w tmps (by simp) rfl .nil hc hs ht hn h
  have hs1 : HS env ρ B s.h { w with drawn := w.drawn + 1 } := hs.later (fun _ _ => rfl) (Nat.le_refl _)
  have hi0 : Inv env F B ops tm s tr [] s.h ρ { w with drawn := w.drawn + 1 } tmps :=
    ⟨by simp, by simp, by simp, by simp, hs1, by simp [srcH], fun x sv e => ht x sv (by simpa [srcT] using e), hn⟩
  obtain ⟨LR, hL, ρ', w', tmps', hi, hall, hle, hb, hst⟩ := Inv.all (F := F) hR hv hlen (fn := fn) (rd := rd) (df := df) (k := k) cs ops.size (w.tape w.drawn (.order fn id)) (Array.replicate ops.size false) (List.range ops.size) [] s.h ρ _ tmps hi0
    (by simp) List.nodup_range (by simp) (by intro j; simp [Array.getD_eq_getD_getElem?, Array.getElem?_replicate]; intro hj; simp [hj]) (by intro t ht; simp [Array.getD_eq_getD_getElem?, Array.getElem?_replicate]; split <;> simp)
  have hmem : ∀ t, t ∈ LR ↔ t ∈ tr := fun t => ⟨hi.mem t, hall t⟩
  refine ⟨tm', cx', s', ρ', w', tmps', h, hc', hle, hi.hs.ext ?_, ?_, ?_, hi.hn, hv.others, ?_⟩
  · intro b
    rw [hv.heap b, hi.hH b]
    unfold srcH
    rw [eq_of_rising (hi.sB b) (hv.rising.filter (TR.affB b)) (fun t => by rw [List.mem_filter, List.mem_filter, hmem])]
  · exact (show Below B w { w with drawn := w.drawn + 1 } from ⟨rfl, rfl, rfl, Nat.le_refl _, fun _ _ => rfl⟩).trans hb
  · intro x sv hsv
    obtain ⟨sv0, h1, h2⟩ := hv.slots x sv hsv
    have : srcT tm LR x = srcT tm tr x := by
      unfold srcT
      rw [eq_of_rising (hi.sT x) (hv.rising.filter (TR.affT x)) (fun t => by rw [List.mem_filter, List.mem_filter, hmem])]
    rw [← this] at h1
    obtain ⟨V, h3, h4⟩ := hi.hT x sv0 h1
    exact ⟨V, h3, h2 ρ' V h4⟩
  · refine .head st_draw ?_
    simp only [Region.schedule, hmix, Bool.true_or, if_true, Region.linearise]
    exact hst
end

end Go.SX
