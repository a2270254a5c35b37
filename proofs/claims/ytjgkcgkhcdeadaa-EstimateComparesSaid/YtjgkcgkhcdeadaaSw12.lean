/- The reckoner is right: by induction on its fuel. -/
import Derived.Test.YtjgkcgkhcdeadaaSw38
namespace Go.SX
open Go Go.RowKit
set_option linter.unusedVariables false
set_option linter.unusedSimpArgs false
set_option linter.unusedSectionVars false

variable {P : Program} {env : Env} {B : Nat} {X : Par} {R : Run}

theorem resolve_range {tmps : Array Value} {g : Operand} {l : Nat} {gg : Fn} {fs cp : Array Value} {w : World} (hg : (actOf tmps).eval g = .func gg fs cp) :
    (do let d ← Go.resolve (actOf tmps).eval { callee := .value g, args := #[.const (.func (.yield l) #[] #[])], argTypes := #[] } 0; invoke d.target d.args : Sem Next).run P w =
      (invoke (.fn gg cp) (fs ++ #[.func (.yield l) #[] #[]])).run P w := by
  have : Array.map (actOf tmps).eval #[Operand.const (Value.func (Fn.yield l) #[] #[])] = #[Value.func (Fn.yield l) #[] #[]] := by simp [Act.eval]
  simp only [Go.resolve, Deferred.ofValue, hg, Sem.run_bind, Sem.run_pure, Result.andThen_ok, this]

theorem regionT_ok (hmix : P.follows .mixedOrders = true) (hC : CallOK P env B R) {F : FI} {ops : Array Oper} {draw : Bool} {tm : T SV} {cx : Ctx} {kk : T SV → Ctx → Tree} {s : St} {r : Out × St}
    (h : runE env (regionT P R F ops draw tm cx kk) s = some r) (hc : cx.ok env) {ρ : Pl} {w : World} {tmps : Array Value} (hs : HS env ρ B s.h w) (ht : TS env ρ tm tmps) (hn : tmps.size = F.nt) {fn : Nat} {rd : Option Nat} {df : List Deferred} {k : List Item} (id : Nat) (cs : List Frame) :
    ∃ tm' cx' s' ρ' w' tmps', runE env (kk tm' cx') s' = some r ∧ cx'.ok env ∧ ρ.le ρ' ∧ HS env ρ' B s'.h w' ∧ Below B w w' ∧ TS env ρ' tm' tmps' ∧ tmps'.size = F.nt ∧ (∀ d, d ∉ dstsOf ops → tm'.get d = tm.get d) ∧
      Steps P (lone (mkF fn rd tmps df (.code (.region id ops draw) :: k)) cs w) (lone (mkF fn rd tmps' df k) cs w') := by
  unfold regionT at h
  cases draw with
  | true =>
    rw [cond_true] at h
    exact drawOps_ok (F := F) hmix hC h hc hs ht hn (fn := fn) (rd := rd) (df := df) (k := k) id cs
  | false =>
    rw [cond_false] at h
    obtain ⟨tm', cx', s', ρ', w', tmps', g1, g2, g3, g4, g5, g6, g7, g9, g8⟩ := runOps_ok (F := F) hC (fn := fn) (rd := rd) (df := df) (k := k) cs ops.toList 0 tm cx s ρ w tmps (by simp) h hc hs ht hn
    refine ⟨tm', cx', s', ρ', w', tmps', g1, g2, g3, g4, g5, g6, g7, g9, .head st_region ?_⟩
    have : List.range ops.size = List.range' 0 ops.toList.length := by simp [List.range_eq_range']
    rw [this]
    exact g8

/-- what is joined: either the way's own outcome goes on, or the joined one over the store as it was -/
theorem join_ok {cx : Ctx} {tm : T SV} {ds : List Nat} {t : Tree} {k : Out → Tree} {s : St} {r : Out × St} (h : runE env (.join cx tm ds t k) s = some r) :
    ∃ o s1, runE env t s.jn = some (o, s1) ∧
      ((∃ s2 : St, s2.h = s1.h ∧ runE env (k o) s2 = some r) ∨
       (∃ (o' : Out) (s2 : St), RelO env cx tm ds s.nx o o' ∧ s2.h = s.h ∧ runE env (k o') s2 = some r ∧ (∀ b, b < s.nx → s1.h.get b = s.h.get b) ∧ (∀ b v, s.h.get b = some v → s1.h.get b = some v))) := by
  obtain ⟨hj, o', sj, hat, hk⟩ := runE_join h
  obtain ⟨hf, hnn⟩ := joinOK_ok hj
  obtain ⟨o, s1, h1, h2⟩ := merge_at hat
  refine ⟨o, s1, h1, ?_⟩
  rcases h2 with ⟨rfl, rfl⟩ | ⟨hw, rfl, hrel⟩
  · exact .inl ⟨_, by rfl, hk⟩
  · have hl := (PT.all_at (PT.all_mem (run t s.jn)) h1).2
    have hkp : Keeps s.jn s1 := PT.all_at (keepsP t s.jn (by simp [St.jn])) h1
    have keep : ∀ b, (b < s.nx ∨ s1.nx ≤ b) → s1.h.get b = s.h.get b := fun b hb => hkp b (by rw [hw]; simp) hb
    refine .inr ⟨o', _, hrel, by rfl, hk, fun b hb => keep b (.inl hb), fun b v hv => ?_⟩
    rw [keep b ?_]
    · exact hv
    · by_cases hb : b < s.nx
      · exact .inl hb
      · refine .inr (Nat.le_trans hl ?_)
        refine Nat.le_of_not_lt fun hlt => ?_
        rw [hnn b (by omega) hlt] at hv
        cases hv

set_option maxHeartbeats 1000000 in
theorem stepX_fr (hmix : P.follows .mixedOrders = true) (hL : ∀ f i g, X.loops f i = some g → ∀ tm s L, g tm s = some L → LoopOK env L) (hFa : ∀ env', env'.f = env.f → FrOK P env' B R) (hC : CallOK P env B R) : FrOK P env B (stepX P X R) := by
  have hF := hFa env rfl
  intro F todo tm df cx K s r h hc ρ rd dfs tmps w hrd hd ht hn hs cs tail
  simp only [stepX] at h
  split at h
  · -- nothing left
    exact ⟨none, tm, df, cx, s, ρ, dfs, tmps, w, tail, h, hc, ρ.le_refl, hd, ht, hn, hs, Below.refl _ _, rfl, .refl _ _⟩
  · rename_i l k
    exact hF.via h hc ρ.le_refl (Below.refl _ _) hrd hd ht hn hs (.one st_inBlock)
  · rename_i c k
    exact hF.via h hc ρ.le_refl (Below.refl _ _) hrd hd ht hn hs (.one st_inScope)
  · rename_i body k
    exact hF.via h hc ρ.le_refl (Below.refl _ _) hrd hd ht hn hs (.one st_inLoop)
  · -- a round begins
    rename_i k
    split at h
    · rename_i l hl
      obtain ⟨b, hg, hlt0, h⟩ := runE_get h
      split at h
      · rename_i L
        split at h
        · rename_i hst
          obtain ⟨u, hu, hlt1, h⟩ := runE_set h
          rw [hl] at hrd
          obtain ⟨x, o, hx, rfl⟩ := hrd
          obtain ⟨r2, o2, lp, e2, hob, hL, hs2, hb⟩ := hs.putLoop hg (L' := { L with st := .busy }) (fun lp => { lp with state := .busy }) (fun lp h => by
            obtain ⟨a, b, c, d, e, f, g, i, j⟩ := h
            exact ⟨rfl, b, c, d, e, f, g, i, j⟩)
          rw [hx] at e2
          cases e2
          refine hF.via h hc ρ.le_refl hb (by rw [hl]; exact ⟨x, o, hx, rfl⟩) hd ht hn (by rw [St.put_h, St.touch_h]; exact hs2) (.one (st_beginRound (run_beginRound hob (hL.1.trans hst))))
        · exact (runE_fail h).elim
      · exact (runE_fail h).elim
    · exact (runE_fail h).elim
  · -- code
    rename_i c k
    split at h
    · exact ⟨some .ret, tm, df, cx, s, ρ, dfs, tmps, w, _, h, hc, ρ.le_refl, hd, ht, hn, hs, Below.refl _ _, ⟨k ++ tail, rfl⟩, .refl _ _⟩
    · exact hF.via h hc ρ.le_refl (Below.refl _ _) hrd hd ht hn hs (.one st_skip)
    · exact hF.via h hc ρ.le_refl (Below.refl _ _) hrd hd ht hn hs (.one st_label)
    · exact hF.via h hc ρ.le_refl (Below.refl _ _) hrd hd ht hn hs (.one st_seq)
    · rename_i c x y
      split at h
      · rename_i b hb
        have hV : (actOf tmps).eval c = .bool (b.den env) := (ht.evOK' [c]) c (by simp) _ hb
        split at h
        · exact condT_ok hF h hc ρ rd dfs tmps w hrd hd ht hn hs cs tail hV
        · obtain ⟨cx', hc', h⟩ := branch_ok h hc
          exact hF.via h hc' ρ.le_refl (Below.refl _ _) hrd hd ht hn hs (.one (st_cond hV))
      · exact (runE_fail h).elim
    · exact hF.via h hc ρ.le_refl (Below.refl _ _) hrd hd ht hn hs (.one st_block)
    · split at h
      · exact hF.via h hc ρ.le_refl (Below.refl _ _) hrd hd ht hn hs (.one st_loop)
      · rename_i g hg
        exact loopT_ok hFa (hL F.fn _ g hg) h hc ρ rd dfs tmps w hrd hd ht hn hs cs tail
    · exact hF.via h hc ρ.le_refl (Below.refl _ _) hrd hd ht hn hs (.one st_scope)
    · rename_i id
      split at h
      · rename_i k' hk'
        exact hF.via h hc ρ.le_refl (Below.refl _ _) hrd hd ht hn hs (.one (st_exit (exitTo_app hk')))
      · rename_i hk'
        exact ⟨some (.exit id), tm, df, cx, s, ρ, dfs, tmps, w, _, h, hc, ρ.le_refl, hd, ht, hn, hs, Below.refl _ _, ⟨k, rfl, hk'⟩, .refl _ _⟩
    · rename_i id ops draw
      cases hjr : (X.jr F.fn && (dstsOf ops).all (Nat.blt · F.nt)) with
      | false =>
        rw [hjr, cond_false] at h
        obtain ⟨tm', cx', s', ρ', w', tmps', g1, g2, g3, g4, g5, g6, g7, _, g8⟩ := regionT_ok (F := F) hmix hC h hc hs ht hn (fn := F.fn) (rd := rd) (df := dfs) (k := k ++ tail) id cs
        exact hF.via g1 g2 g3 g5 (hrd.mono g3) (hd.mono g3) g6 g7 g4 g8
      | true =>
        rw [hjr, cond_true] at h
        simp only [Bool.and_eq_true, List.all_eq_true] at hjr
        obtain ⟨o, s1, h1, h2⟩ := join_ok h
        obtain ⟨tm', cx', s', ρ', w', tmps', g1, g2, g3, g4, g5, g6, g7, g9, g8⟩ := regionT_ok (F := F) hmix hC h1 hc (s := s.jn) hs ht hn (fn := F.fn) (rd := rd) (df := dfs) (k := k ++ tail) id cs
        simp only [runE, run, PT.at, Option.some.injEq, Prod.mk.injEq] at g1
        obtain ⟨rfl, rfl⟩ := g1
        rcases h2 with ⟨s2, e2, h⟩ | ⟨o', s2, hrel, e2, h, low, old⟩
        · exact hF.via h g2 g3 g5 (hrd.mono g3) (hd.mono g3) g6 g7 (by rw [e2]; exact g4) g8
        · cases o' with
          | val v9 cx9 => exact hrel.elim
          | tms m cx9 =>
            obtain ⟨r1, r2⟩ := hrel
            have hdn := HS.downs g3 hs g4 low
            refine hF.via h (r1 hc g2) ρ.le_refl g5 hrd hd ?_ g7 (by rw [e2]; exact HS.joined g3 hs g4 old) g8
            intro d v hdv
            obtain ⟨q1, q2⟩ := r2 d v hdv
            by_cases hm : d ∈ dstsOf ops
            · obtain ⟨q3, q4⟩ := q1 hm
              rcases q4 with ⟨v0, hv0, hr0⟩ | q4
              · obtain ⟨V, hV, hr⟩ := g6 d v0 hv0
                exact ⟨V, hV, Rep.down hdn q3 (hr0 ρ' V hr)⟩
              · have hlt : d < tmps'.size := by
                  have := hjr.2 d hm
                  rw [blt_dec, decide_eq_true_eq] at this
                  omega
                exact ⟨tmps'[d], by simp [hlt], q4 ρ _⟩
            · have e1 := q2 hm
              obtain ⟨V, hV, hr⟩ := g6 d v (by rw [g9 d hm]; exact e1)
              obtain ⟨V0, hV0, hr0⟩ := ht d v e1
              exact ⟨V, hV, Rep.back g3 hr0 hr⟩
    · -- a range over a function
      rename_i g ps assign body
      split at h
      · rename_i gv hgv
        have hG : Rep env ρ gv ((actOf tmps).eval g) := (ht.evOK' [g]) g (by simp) _ hgv
        -- from the record on
        have main : ∀ (d : Nat) (df1 : List Nat) (s1 : St) (ρ1 : Pl) (w1 : World) (mark : List Deferred) (rl : Nat) (hρ1 : ρ.le ρ1) (hb1 : Below B w w1), HS env ρ1 B s1.h w1 → DfS ρ1 df1 (mark ++ dfs) →
            (∃ rdf od, ρ1 d = some (rdf, od) ∧ ∃ wE, (Instr.enterLoop F.fn tmps ps assign body rd).run P w = .ok (rl, mark) (wE) ∧ rl = w1.heap.size ∧
              wE = w1.alloc (.loop { state := .ready, pending := none, fn := F.fn, tmps := tmps, params := ps, assign := assign, body := body, defers := rdf })) →
            runE env (.new (.loop { st := .ready, pend := none, fn := F.fn, nt := F.nt, tm := tm, params := ps.toList, assign := assign, body := body, d := d }) fun l =>
               callV R gv [.func (.yield l) [] []] cx fun _ cx => .get l fun b => match b with
                 | .loop L => (match L.st with
                   | .busy => .fail "range func"
                   | _ => .set l (.loop { L with st := .exhausted }) (R (.fr F ((match L.pend with | some c => [Item.code c] | none => []) ++ k) tm df1 cx) K))
                 | _ => .fail "range func") s1 = some r →
            ∃ j tm' df' cx' s' ρ' dfs' tmps' w' todo', runE env (K (.left j tm' df' cx')) s' = some r ∧ cx'.ok env ∧ ρ.le ρ' ∧ DfS ρ' df' dfs' ∧ TS env ρ' tm' tmps' ∧ tmps'.size = F.nt ∧ HS env ρ' B s'.h w' ∧ Below B w w' ∧
              Leaves tail j todo' ∧ Steps P (lone (mkF F.fn rd tmps dfs (.code (.rangeFunc g ps assign body) :: (k ++ tail))) cs w) (lone (mkF F.fn rd tmps' dfs' todo') cs w') := by
          intro d df1 s1 ρ1 w1 mark rl hle1 hb1 hs1 hd1 hE h
          obtain ⟨rdf, od, hρd, wE, hent, hrl, hwE⟩ := hE
          obtain ⟨hnone, h⟩ := runE_new h
          obtain ⟨hle2, hρ2, hs2⟩ := hs1.alloc hnone (v := .loop { st := .ready, pend := none, fn := F.fn, nt := F.nt, tm := tm, params := ps.toList, assign := assign, body := body, d := d }) rfl
            (ob := .loop { state := .ready, pending := none, fn := F.fn, tmps := tmps, params := ps, assign := assign, body := body, defers := rdf })
            (fun ρ' hle => ⟨_, rfl, rfl, rfl, rfl, hn, ht.mono (Pl.le_trans hle1 hle), rfl, rfl, rfl, od, hle _ _ hρd⟩)
          have hle12 := Pl.le_trans hle1 hle2
          have hb2 : Below B w (w1.alloc (.loop { state := .ready, pending := none, fn := F.fn, tmps := tmps, params := ps, assign := assign, body := body, defers := rdf })) := hb1.alloc hs1.size _
          rw [← hwE] at hb2 hs2
          have hY : RepL env (ρ1.upd s1.nx w1.heap.size 0) [.func (.yield s1.nx) [] []] [.func (.yield rl) #[] #[]] :=
            ⟨_, [], ⟨.yield rl, [], [], ⟨_, 0, by rw [hrl]; exact hρ2, rfl⟩, rfl, rfl, rfl⟩, rfl, rfl⟩
          obtain ⟨v, cx3, s3, ρ3, V, w3, h, hc3, hle3, hv3, hs3, hb3, hst3⟩ := callV_ok hC h hc (hG.mono hle12) hY hs2
            (sem := (do let d ← Go.resolve (actOf tmps).eval { callee := .value g, args := #[.const (.func (.yield rl) #[] #[])], argTypes := #[] } 0; invoke d.target d.args : Sem Next))
            (fun gg fs cp hgg => resolve_range hgg)
            (m0 := lone (mkF F.fn rd tmps dfs (.code (.rangeFunc g ps assign body) :: (k ++ tail))) cs w) (mkF F.fn rd tmps (mark ++ dfs) (.inRangeFunc rl :: (k ++ tail))) cs
            (fun gg as hr => st_range hent hr) (fun l' gg ts a b hr => st_rangeRound hent hr)
          have hfin : (mkF F.fn rd tmps (mark ++ dfs) (.inRangeFunc rl :: (k ++ tail))).finish V = mkF F.fn rd tmps (mark ++ dfs) (.endRangeFunc rl :: (k ++ tail)) := by simp [Frame.finish, mkF]
          rw [hfin] at hst3
          obtain ⟨b, hg, hlt0, h⟩ := runE_get h
          split at h
          · rename_i L
            have hrest : L.st ≠ .busy ∧ runE env (.set s1.nx (.loop { L with st := .exhausted }) (R (.fr F ((match L.pend with | some c => [Item.code c] | none => []) ++ k) tm df1 cx3) K)) (s3.touch s1.nx) = some r := by
              split at h
              · exact (runE_fail h).elim
              · rename_i hnb
                exact ⟨fun e => hnb e, h⟩
            obtain ⟨hnb, h⟩ := hrest
            obtain ⟨u, hu, hlt1, h⟩ := runE_set h
            obtain ⟨r2, o2, lp, e2, hob, hL, hs4, hb4⟩ := hs3.putLoop hg (L' := { L with st := .exhausted }) (fun lp => { lp with state := .exhausted }) (fun lp h => by
              obtain ⟨a, b, c, d, e, f, g, i, j⟩ := h
              exact ⟨rfl, b, c, d, e, f, g, i, j⟩)
            have e3 := hle3 _ _ hρ2
            rw [e2] at e3
            cases e3
            have hle13 := Pl.le_trans hle12 hle3
            have hpend : lp.pending = L.pend := hL.2.1
            have hend := st_endRange (P := P) (fn := F.fn) (rd := rd) (tmps := tmps) (df := mark ++ dfs) (k := k ++ tail) (cs := cs) (run_endLoop hob (by rw [hL.1]; exact hnb))
            have htodo : (lp.pending.map Item.code).toList ++ (k ++ tail) = ((match L.pend with | some c => [Item.code c] | none => []) ++ k) ++ tail := by
              rw [hpend]
              cases L.pend <;> rfl
            rw [htodo] at hend
            rw [hrl] at hst3
            refine hF.via h hc3 hle13 ((hb2.trans hb3).trans hb4) (hrd.mono hle13) (hd1.mono (Pl.le_trans hle2 hle3)) (ht.mono hle13) hn (by rw [St.put_h, St.touch_h]; exact hs4) (hst3.trans (.one hend))
          · exact (runE_fail h).elim
        split at h
        · -- outermost
          rename_i hrdn
          rw [hrdn] at hrd
          have hrd' : rd = none := hrd
          subst hrd'
          obtain ⟨hnone, h⟩ := runE_new h
          obtain ⟨hle1, hρ1, hs1⟩ := hs.alloc hnone (v := .dfr false) rfl (ob := .deferred (some [])) (fun _ _ => rfl)
          refine main s.nx (s.nx :: df) (s.add (.dfr false)) _ (w.alloc (.deferred (some []))) [{ target := .collected w.heap.size, args := #[] }] (w.heap.size + 1) hle1 ((Below.refl _ _).alloc hs.size _) hs1
            ⟨w.heap.size, 0, dfs, hρ1, hd.mono hle1, rfl⟩ ⟨w.heap.size, 0, hρ1, _, run_enterLoop_outer .., ?_, rfl⟩ h
          show w.heap.size + 1 = (w.heap.push _).size
          simp
        · -- inside a round
          rename_i l0 hl0
          rw [hl0] at hrd
          obtain ⟨x, o, hx, rfl⟩ := hrd
          obtain ⟨b, hg, hlt0, h⟩ := runE_get h
          split at h
          · rename_i L0
            obtain ⟨r2, o2, e2, hbs, hown, hown1⟩ := hs.at _ _ hg (fun _ => rfl)
            rw [hx] at e2
            cases e2
            obtain ⟨lp, hob, hL⟩ := hbs
            obtain ⟨od, hod⟩ := hL.2.2.2.2.2.2.2.2
            refine main L0.d df (s.touch l0) ρ w [] w.heap.size ρ.le_refl (Below.refl _ _) (by rw [St.touch_h]; exact hs) hd ⟨lp.defers, od, hod, _, run_enterLoop_inner hob .., rfl, rfl⟩ h
          · exact (runE_fail h).elim
      · exact (runE_fail h).elim
    · exact (runE_fail h).elim
  · exact (runE_fail h).elim

theorem bodyT_ok (hF : FrOK P env B R) {f : Nat} {fn : Func} {c : Code} {args : List SV} {cx : Ctx} {K : Res → Tree} {s : St} {r : Out × St} (hent : entered P f = some (fn, c)) (h : runE env (bodyT P R f fn c args cx K) s = some r) (hc : cx.ok env)
    {ρ : Pl} {vs : List Value} {w : World} (ha : RepL env ρ args vs) (hs : HS env ρ B s.h w) (cs : List Frame) :
    ∃ v cx' s' ρ' V w' fr', runE env (K (.val v cx')) s' = some r ∧ cx'.ok env ∧ ρ.le ρ' ∧ Rep env ρ' v V ∧ HS env ρ' B s'.h w' ∧ Below B w w' ∧
      (callFunc f vs.toArray).run P w = .ok (.enter f vs.toArray) w ∧ Steps P (lone (Frame.enter P f vs.toArray .normal) cs w) (lone fr' cs w') ∧ fr'.fn = f ∧ fr'.leaving P w' (.returned V) := by
  unfold bodyT at h
  obtain ⟨hfn, hbody, hcall⟩ := entered_ok hent vs.toArray w
  have hlen := ha.length
  have henter : Frame.enter P f vs.toArray .normal = mkF f none (vs.toArray ++ Array.replicate (fn.ntmps - vs.length) undef) [] [.code c] := by
    simp [Frame.enter, mkF, hfn, hbody]
  have hts : TS env ρ (setL .nil 0 args) (vs.toArray ++ Array.replicate (fn.ntmps - vs.length) undef) := by
    refine TS.setL args 0 .nil _ (fun t s e => by cases e) ?_
    intro j sv e
    obtain ⟨v, hv, hr⟩ := ha.get e
    refine ⟨v, ?_, hr⟩
    have hj := (List.getElem?_eq_some_iff.1 hv).1
    rw [Nat.zero_add, Array.getElem?_append_left (by simpa using hj)]
    simpa using hv
  obtain ⟨j, tm', df', cx', s', ρ', dfs', tmps', w', todo', h, hc', hle, hd', ht', hn', hs', hb, hl, hst⟩ := hF ⟨f, args.length + (fn.ntmps - args.length), none⟩ _ _ _ _ _ s r h hc ρ none [] _ w rfl rfl hts (by simp [hlen]) hs cs []
  have key : ∀ (hj : j = none ∨ j = some .ret), runE env (takeD df' (retVal P cx' tm' fn.results.toList fun vs cx => K (.val (oneOf vs) cx))) s' = some r →
      ∃ v cx' s' ρ' V w' fr', runE env (K (.val v cx')) s' = some r ∧ cx'.ok env ∧ ρ.le ρ' ∧ Rep env ρ' v V ∧ HS env ρ' B s'.h w' ∧ Below B w w' ∧
        (callFunc f vs.toArray).run P w = .ok (.enter f vs.toArray) w ∧ Steps P (lone (Frame.enter P f vs.toArray .normal) cs w) (lone fr' cs w') ∧ fr'.fn = f ∧ fr'.leaving P w' (.returned V) := by
    intro hj h
    obtain ⟨s2, w2, h, hs2, hb2, hst2⟩ := takeD_ok (P := P) { mkF f none tmps' dfs' todo' with mode := .returning } cs h hd' hs' (by simp) rfl
    obtain ⟨rvs, us, cx3, s3, h, hc3, hh3, hr3, hrun⟩ := retVal_ok (P := P) (B := B) ht' h hc' hs2
    refine ⟨_, cx3, s3, ρ', oneV us, w2, { { mkF f none tmps' dfs' todo' with mode := .returning } with defers := [] }, h, hc3, hle, oneOf_rep hr3, by rw [hh3]; exact hs2, hb.trans hb2, hcall, ?_, rfl, ?_⟩
    · rw [henter]
      exact hst.trans (.head (st_leave hj hl) hst2)
    · exact ⟨rfl, rfl, rfl, fn, hfn, results_run hrun⟩
  dsimp only at h
  split at h
  · exact key (.inl rfl) h
  · exact key (.inr rfl) h
  · exact (runE_fail h).elim

theorem needArrs_ok {ρ : Pl} {w : World} {t : Tree} {r : Out × St} : ∀ {l : List (Nat × List (Option IntKind) × Nat × E)} {s : St}, runE env (needArrs t l) s = some r → HS env ρ B s.h w →
    (∀ b sig F N, (b, sig, F, N) ∈ l → ∃ r o, ρ b = some (r, o) ∧ ((Blk.arr sig F [] N).void env o = false → BS env ρ (w.heap[r]?) o (.arr sig F [] N))) ∧ ∃ s', s'.h = s.h ∧ runE env t s' = some r
  | [], s, h, hs => ⟨fun b sig F N hm => by simp at hm, s, rfl, h⟩
  | (b, sig, F, N) :: l, s, h, hs => by
      simp only [needArrs] at h
      obtain ⟨blk, hg, _, g⟩ := runE_get h
      clear h
      obtain ⟨r0, o, e, hbs0⟩ := hs.blk _ _ hg
      split at g
      · rename_i sig' F' N'
        cases hq : (decide (sig' = sig) && (Nat.beq F' F && N'.same N)) with
        | false => rw [hq] at g; exact (runE_fail g).elim
        | true =>
          rw [hq, cond_true] at g
          simp only [Bool.and_eq_true, decide_eq_true_eq] at hq
          obtain ⟨rfl, hF, hN⟩ := hq
          have hF' : F' = F := Nat.eq_of_beq_eq_true hF
          subst hF'
          have hN' := E.same_eq hN
          subst hN'
          obtain ⟨h1, s', h2, h3⟩ := needArrs_ok g (by rw [St.touch_h]; exact hs)
          refine ⟨?_, s', by rw [h2, St.touch_h], h3⟩
          intro b' sig2 F2 N2 hm
          rcases List.mem_cons.1 hm with hm | hm
          · cases hm
            exact ⟨r0, o, e, fun hv => (hbs0 hv).1⟩
          · exact h1 b' sig2 F2 N2 hm
      · exact (runE_fail g).elim

set_option maxHeartbeats 1000000 in
theorem stepX_call (hG : GenOK P env X.gen) (hBk : BookOK P env X.book) (hF : FrOK P env B R) : CallOK P env B (stepX P X R) := by
  constructor
  · intro f args cx K s r h hc ρ vs w ha hs cs
    simp only [stepX] at h
    split at h
    · -- by a tree that stands for it
      rename_i g hg
      exact hG f args cx g hg hc B _ s r h ρ vs w ha hs cs
    split at h
    · -- by the book
      rename_i sm hsm
      obtain ⟨hblks, s1, hs1, h⟩ := needBlks_ok h hs
      rw [← hs1] at hs
      obtain ⟨harrs, s2, hs2, h⟩ := needArrs_ok h hs
      rw [← hs2] at hs
      obtain ⟨hneeds, cx1, hc1, h⟩ := needAll_ok h hc
      obtain ⟨hcall, hfacts, hrngs, hcalls⟩ := hBk f args cx sm hsm hc hneeds ρ vs w ha (fun b l hm => let ⟨r, o, _, h1, h2⟩ := hblks b l hm; ⟨r, o, h2, h1⟩) harrs
      obtain ⟨e, w', fr, ⟨V, rfl, hV, hb⟩, hcomes, hfn, hleave⟩ := hcalls cs
      exact ⟨sm.v, _, s2, ρ, V, w', fr, h, assumeAll_ok (addRs_ok hc1 hrngs) hfacts, ρ.le_refl, hV, hs.below hb, hb.mono hs.size, hcall, hcomes, hfn, hleave⟩
    · -- into the body
      split at h
      · rename_i fn c hent
        cases hjc : X.jc f with
        | false =>
          rw [hjc, cond_false] at h
          exact bodyT_ok hF hent h hc ha hs cs
        | true =>
          rw [hjc, cond_true] at h
          obtain ⟨o, s1, h1, h2⟩ := join_ok h
          obtain ⟨v, cx', s', ρ', V, w', fr', g1, g2, g3, g4, g5, g6, g7, g8, g9, g10⟩ := bodyT_ok hF hent h1 hc ha (s := s.jn) hs cs
          simp only [runE, run, PT.at, Option.some.injEq, Prod.mk.injEq] at g1
          obtain ⟨rfl, rfl⟩ := g1
          rcases h2 with ⟨s2, e2, h⟩ | ⟨o', s2, hrel, e2, h, low, old⟩
          · exact ⟨v, cx', s2, ρ', V, w', fr', h, g2, g3, g4, by rw [e2]; exact g5, g6, g7, g8, g9, g10⟩
          · cases o' with
            | tms m cx9 => exact hrel.elim
            | val v9 cx9 =>
              obtain ⟨r1, r2, r3⟩ := hrel
              exact ⟨v9, cx9, s2, ρ, V, w', fr', h, r1 hc g2, ρ.le_refl, Rep.down (HS.downs g3 hs g5 low) r3 (r2 ρ' V g4), by rw [e2]; exact HS.joined g3 hs g5 old, g6, g7, g8, g9, g10⟩
      · exact (runE_fail h).elim
  · intro l args cx K s r h hc ρ vs w rl ol hρl ha hs c cs
    simp only [stepX] at h
    obtain ⟨b, hg, hlt0, h⟩ := runE_get h
    split at h
    · rename_i L
      obtain ⟨r2, o2, e2, hbs, hown, hown1⟩ := hs.at _ _ hg (fun _ => rfl)
      rw [hρl] at e2
      cases e2
      obtain ⟨lp, hob, hL⟩ := hbs
      obtain ⟨q1, q2, q3, q4, q5, q6, q7, q8, q9⟩ := hL
      obtain ⟨tm1, h, ht1, hn1, hlen1⟩ := setP_ok (F := ⟨L.fn, L.nt, some l⟩) h ha q5 q4
      have htm : (lp.params.zip vs.toArray).foldl (fun tmps (t, a) => tmps.setIfInBounds t a) lp.tmps = (L.params.zip vs).foldl (fun t (p : Nat × Value) => t.setIfInBounds p.1 p.2) lp.tmps := by
        rw [← Array.foldl_toList, Array.toList_zip, q6]
      have hps : vs.toArray.size = lp.params.size := by
        rw [← Array.length_toList (xs := lp.params), q6, hlen1]
        simp
      have hround : Frame.round rl lp.fn ((lp.params.zip vs.toArray).foldl (fun tmps (t, a) => tmps.setIfInBounds t a) lp.tmps) lp.assign lp.body .normal =
          mkF L.fn (some rl) ((L.params.zip vs).foldl (fun t (p : Nat × Value) => t.setIfInBounds p.1 p.2) lp.tmps) [] [.code L.assign, .beginRound, .code L.body] := by
        rw [htm, q3, q7, q8]
        rfl
      obtain ⟨j, tm', df', cx', s', ρ', dfs', tmps', w', todo', h, hc', hle, hd', ht', hn', hs', hb, hl, hst⟩ := hF ⟨L.fn, L.nt, some l⟩ _ _ _ _ _ _ r h hc ρ (some rl) [] _ w ⟨rl, ol, hρl, rfl⟩ rfl ht1 hn1 (by rw [St.touch_h]; exact hs) (c :: cs) []
      split at h
      · rename_i j' tm2 cx2 heq
        cases heq
        obtain ⟨b, hg2, hlt2, h⟩ := runE_get h
        split at h
        · rename_i L'
          obtain ⟨u, hu, hlt3, h⟩ := runE_set h
          obtain ⟨r3, o3, lp3, e3, hob3, hL3, hs3, hb3⟩ := hs'.putLoop hg2 (L' := { L' with st := if j.isNone then .ready else .done, pend := j }) (fun lp => { lp with state := if j.isNone then .ready else .done, pending := j }) (fun lp h => by
            obtain ⟨a, b, c, d, e, f, g, i, k⟩ := h
            exact ⟨rfl, rfl, c, d, e, f, g, i, k⟩)
          rw [hle _ _ hρl] at e3
          cases e3
          refine ⟨_, cx', _, ρ', .bool j.isNone, _, lp.fn, _, lp.assign, lp.body, h, hc', hle, rfl, by rw [St.put_h, St.touch_h]; exact hs3, hb.trans hb3, run_yield hob hps, ?_⟩
          rw [hround]
          rw [List.append_nil] at hst
          exact hst.trans (.one (st_leaveRound hl (run_endRound j hob3)))
        · exact (runE_fail h).elim
      · exact (runE_fail h).elim
    · exact (runE_fail h).elim

/-- what the reckoner goes by is right -/
structure ParOK (P : Program) (fn : Nat → List Int → Int) (X : Par) : Prop where
  book : ∀ env, env.f = fn → BookOK P env X.book
  loops : LoopsOK fn X.loops
  rows : RowFn fn
  gen : ∀ env, env.f = fn → GenOK P env X.gen

/-- the reckoner is right, whatever its fuel -/
theorem exec_ok (hmix : P.follows .mixedOrders = true) {fn : Nat → List Int → Int} (hX : ParOK P fn X) : ∀ n env, env.f = fn → FrOK P env B (exec P X n) ∧ CallOK P env B (exec P X n)
  | 0, env, he => by
      refine ⟨?_, ?_⟩
      · intro F todo tm df cx K s r h
        exact (runE_fail h).elim
      · constructor
        · intro f args cx K s r h
          exact (runE_fail h).elim
        · intro f args cx K s r h
          exact (runE_fail h).elim
  | n + 1, env, he => by
      have ih := exec_ok hmix hX n
      exact ⟨stepX_fr (X := X) hmix (fun f i g hg tm s L hL => hX.loops env he f i g hg tm s L hL) (fun env' he' => (ih env' (he'.trans he)).1) (ih env he).2, stepX_call (hX.gen env he) (hX.book env he) (ih env he).1⟩

end Go.SX
