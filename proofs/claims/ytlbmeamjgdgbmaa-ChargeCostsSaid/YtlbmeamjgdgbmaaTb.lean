/- Contracts: what is a tariff, the band at a time; the program's and the document's. -/
import Derived.Test.YtlbmeamjgdgbmaaTa
namespace Go.Proofs.Ytlbmeamjgdgbmaa
open Go Go.SX Go.RowKit
set_option linter.unusedVariables false
set_option linter.unusedSimpArgs false
set_option maxRecDepth 100000
set_option maxHeartbeats 4000000
def vtI : VT := (.ite (.cmp .leq (.lit 1) (.var 0)) (.ite (.neg (.cmp .leq (.var 0) (.lit 1099511627776))) (.leaf (.agg [(.int .i64 (.lit 0))])) (.ite (.cmp .leq (.lit 0) (.var 2)) (.ite (.neg (.cmp .leq (.var 2) (.lit 1048576))) (.leaf (.agg [(.int .i64 (.lit 0))])) (.ite (.cmp .lss (.var 1) (.lit 1)) (.leaf (.agg [(.int .i64 (.lit 0))])) (.ite (.cmp .gtr (.var 1) (.lit 48)) (.leaf (.agg [(.int .i64 (.lit 0))])) (.ite (.cmp .eql (.app 20 [(.lit 0), (.lit 0), (.var 0), (.var 1)]) (.lit 0)) (.leaf (.agg [(.int .i64 (.lit 1))])) (.leaf (.agg [(.int .i64 (.lit 0))])))))) (.leaf (.agg [(.int .i64 (.lit 0))])))) (.leaf (.agg [(.int .i64 (.lit 0))])))
def vtR : VT := (.ite (.cmp .geq (.var 0) (.lit 1)) (.ite (.neg (.cmp .leq (.var 0) (.lit 1099511627776))) (.leaf (.agg [(.int .i64 (.lit 2))])) (.ite (.cmp .lss (.var 1) (.lit 1)) (.leaf (.agg [(.int .i64 (.lit 2))])) (.ite (.cmp .gtr (.var 1) (.lit 48)) (.leaf (.agg [(.int .i64 (.lit 2))])) (.ite (.cmp .neq (.app 5000 [(.lit 0)]) (.lit 0)) (.leaf (.agg [(.int .i64 (.lit 2))])) (.ite (.cmp .geq (.var 2) (.lit 0)) (.ite (.neg (.cmp .leq (.var 2) (.lit 1048576))) (.leaf (.agg [(.int .i64 (.lit 2))])) (.ite (.cmp .eql (.app 30 [(.lit 0), (.var 0), (.var 1)]) (.lit 0)) (.leaf (.agg [(.int .i64 (.lit 0))])) (.leaf (.agg [(.int .i64 (.lit 2))])))) (.leaf (.agg [(.int .i64 (.lit 2))]))))))) (.leaf (.agg [(.int .i64 (.lit 2))])))
def vtB1 : VT := (.need (.cmp .lss (.lit 0) (.var 1)) (.leaf (.agg [(.int .i64 (.app 5000 [(.lit 0)])), (.int .i64 (.app 5001 [(.lit 0)])), (.int .i64 (.app 5002 [(.lit 0)]))])))
def vtB2 : VT := (.need (.cmp .geq (.app 5001 [(.lit 0)]) (.lit 0)) (.need (.cmp .leq (.app 5001 [(.lit 0)]) (.lit 1048576)) (.need (.cmp .geq (.app 5002 [(.lit 0)]) (.lit 0)) (.need (.cmp .leq (.app 5002 [(.lit 0)]) (.lit 1048576)) (.need (.cmp .geq (.var 0) (.lit 1)) (.need (.cmp .leq (.var 0) (.lit 1099511627776)) (.need (.cmp .leq (.var 1) (.lit 48)) (.leaf (.agg [(.int .i64 (.app 41 [(.lit 0), (.app 5000 [(.lit 0)]), (.app 5001 [(.lit 0)]), (.app 5002 [(.lit 0)]), (.var 0), (.var 1), (.var 3)])), (.int .i64 (.app 42 [(.lit 0), (.app 5000 [(.lit 0)]), (.app 5001 [(.lit 0)]), (.app 5002 [(.lit 0)]), (.var 0), (.var 1), (.var 3)])), (.int .i64 (.app 43 [(.lit 0), (.app 5000 [(.lit 0)]), (.app 5001 [(.lit 0)]), (.app 5002 [(.lit 0)]), (.var 0), (.var 1), (.var 3)]))])))))))))
def vtR1 : VT := (.ite (.cmp .lss (.lit 0) (.var 1)) (.need (.cmp .neq (.var 0) (.lit 0)) (.ite (.cmp .leq (.app 5000 [(.lit 0)]) (.op .tmod (.var 3) (.var 0))) (.leaf (.agg [(.int .i64 (.app 5000 [(.lit 0)])), (.int .i64 (.app 5001 [(.lit 0)])), (.int .i64 (.app 5002 [(.lit 0)]))])) (.leaf (.agg [(.int .i64 (.app 5000 [(.lit 0)])), (.int .i64 (.app 5001 [(.lit 0)])), (.int .i64 (.app 5002 [(.lit 0)]))])))) .fail)
def vtR2 : VT := (.need (.cmp .geq (.var 0) (.lit 1)) (.need (.cmp .leq (.var 0) (.lit 1099511627776)) (.need (.cmp .leq (.var 1) (.lit 48)) (.leaf (.agg [(.int .i64 (.app 5000 [(.app 51 [(.lit 0), (.lit 0), (.var 0), (.var 1), (.var 3)])])), (.int .i64 (.app 5001 [(.app 51 [(.lit 0), (.lit 0), (.var 0), (.var 1), (.var 3)])])), (.int .i64 (.app 5002 [(.app 51 [(.lit 0), (.lit 0), (.var 0), (.var 1), (.var 3)])]))])))))
structure Q1 (env : Env) (K : Nat) (u : SV) : Prop where
  at1 : ∀ j, j < 1 → (u.nums.getD j (.lit 0)).den env = env.f (K + j) (selV [0, 1, 2] env)
theorem holds_imp {env : Env} {Q R : SV → Prop} (h : ∀ v, Q v → R v) : ∀ {t : VT}, t.holds env Q → t.holds env R
  | .leaf v, g => h v g
  | .ite c t e, g => ⟨fun hc => holds_imp h (g.1 hc), fun hc => holds_imp h (g.2 hc)⟩
  | .need c t, g => ⟨g.1, holds_imp h g.2⟩
  | .fail, g => g
open Classical in
theorem is_core {env : Env} (h : Good env.f) : vtI.holds env (Q1 env 61) := by
  have e : env.f 61 [env.v 0, env.v 1, env.v 2] = if tarOk env.f (env.v 0) (env.v 1) (env.v 2) then 1 else 0 := h.h61 ..
  have e20 : env.f 20 [0, 0, env.v 0, env.v 1] = 0 ↔ env.f 5000 [0] = 0 ∧ allOk env.f (env.v 0) (env.v 1) := by rw [h.h20]; split <;> simp_all
  have e30 : env.f 30 [0, env.v 0, env.v 1] = 0 ↔ allOk env.f (env.v 0) (env.v 1) := by rw [h.h30]; split <;> simp_all
  have lf : ∀ x : Int, env.f 61 [env.v 0, env.v 1, env.v 2] = x → Q1 env 61 (.agg [.int .i64 (.lit x)]) := fun x hx => ⟨fun j hj => by
    obtain rfl : j = 0 := by omega
    exact hx.symm⟩
  simp only [vtI, VT.holds, den_lit, den_var, den_ite, den_cmp, den_cmpB, den_tst, den_tstF, den_negT, den_negF, den_andT, den_andF, lssT, leqT, gtrT, geqT, eqlT, neqT, lssF, leqF, gtrF, geqF, eqlF, neqF, den_app, den_nilL, den_consL, den_add, den_sub, den_mul, den_tdiv, den_tmod, den_mx, den_mn, den_blit, den_bin, binI, e20, e30]
  by_cases ht : tarOk env.f (env.v 0) (env.v 1) (env.v 2)
  · rw [if_pos ht] at e
    obtain ⟨⟨t1, t2⟩, ⟨t3, t4⟩, ⟨t5, t6⟩, t7, t8⟩ := ht
    repeat' (first | apply And.intro | (intro hx; try (have hx' := hx)))
    all_goals first | exact lf _ e | (exfalso; omega) | (exfalso; simp_all)
  · rw [if_neg ht] at e
    repeat' (first | apply And.intro | intro hx)
    all_goals first | exact lf _ e | (exfalso; refine ht ⟨⟨?_, ?_⟩, ⟨?_, ?_⟩, ⟨?_, ?_⟩, ?_, ?_⟩ <;> first | omega | simp_all)
open Classical in
theorem rf_core {env : Env} (h : Good env.f) : vtR.holds env (Q1 env 60) := by
  have e : env.f 60 [env.v 0, env.v 1, env.v 2] = if tarOk env.f (env.v 0) (env.v 1) (env.v 2) then 0 else 2 := h.h60 ..
  have e20 : env.f 20 [0, 0, env.v 0, env.v 1] = 0 ↔ env.f 5000 [0] = 0 ∧ allOk env.f (env.v 0) (env.v 1) := by rw [h.h20]; split <;> simp_all
  have e30 : env.f 30 [0, env.v 0, env.v 1] = 0 ↔ allOk env.f (env.v 0) (env.v 1) := by rw [h.h30]; split <;> simp_all
  have lf : ∀ x : Int, env.f 60 [env.v 0, env.v 1, env.v 2] = x → Q1 env 60 (.agg [.int .i64 (.lit x)]) := fun x hx => ⟨fun j hj => by
    obtain rfl : j = 0 := by omega
    exact hx.symm⟩
  simp only [vtR, VT.holds, den_lit, den_var, den_ite, den_cmp, den_cmpB, den_tst, den_tstF, den_negT, den_negF, den_andT, den_andF, lssT, leqT, gtrT, geqT, eqlT, neqT, lssF, leqF, gtrF, geqF, eqlF, neqF, den_app, den_nilL, den_consL, den_add, den_sub, den_mul, den_tdiv, den_tmod, den_mx, den_mn, den_blit, den_bin, binI, e20, e30]
  by_cases ht : tarOk env.f (env.v 0) (env.v 1) (env.v 2)
  · rw [if_pos ht] at e
    obtain ⟨⟨t1, t2⟩, ⟨t3, t4⟩, ⟨t5, t6⟩, t7, t8⟩ := ht
    repeat' (first | apply And.intro | (intro hx; try (have hx' := hx)))
    all_goals first | exact lf _ e | (exfalso; omega) | (exfalso; simp_all)
  · rw [if_neg ht] at e
    repeat' (first | apply And.intro | intro hx)
    all_goals first | exact lf _ e | (exfalso; refine ht ⟨⟨?_, ?_⟩, ⟨?_, ?_⟩, ⟨?_, ?_⟩, ?_, ?_⟩ <;> first | omega | simp_all)
theorem is_run : (run (callT Try.prog X0 100000 32 (grp .agg [some 3] (rcArgs isWC.sh)) (rcCtx isWC.sh isWC.pre 0)) (rcSt isWC.sh)).vtO isWC.outs = vtI := by kernel_rfl
theorem is_ok {fn : Fn} (h : Good fn) : isWC.OKg Try.prog fn [some 3] := by
  refine WC.ok_runCg (X := X0) (n := 100000) mixF (X0_ok h) (by kernel_rfl) fun pv w hpv hfn hpre => ⟨by simp [isWC], ?_, _, RC.ctx_ok (d := 0) hpv hpre, ?_⟩
  · intro p hm
    first
      | (simp [isWC] at hm; done)
      | (simp only [isWC, List.mem_singleton] at hm
         subst hm
         show 0 ≤ fn 60 _ ∧ fn 60 _ ≤ 2
         show 0 ≤ fn 60 [(envOf (pvNums pv) fn).v 0, (envOf (pvNums pv) fn).v 1, (envOf (pvNums pv) fn).v 2] ∧ fn 60 [(envOf (pvNums pv) fn).v 0, (envOf (pvNums pv) fn).v 1, (envOf (pvNums pv) fn).v 2] ≤ 2
         rw [h.h60]; split <;> decide)
  · show ((run (callT Try.prog X0 100000 32 (grp .agg [some 3] (rcArgs isWC.sh)) (rcCtx isWC.sh isWC.pre 0)) (rcSt isWC.sh)).vtO isWC.outs).holds _ _
    rw [is_run]
    exact holds_imp (fun v hv => hv.at1) (is_core (env := envOf (pvNums pv) fn) h)
theorem rf_run : (run (callT Try.prog X0 100000 14 (grp .agg [some 3] (rcArgs rfWC.sh)) (rcCtx rfWC.sh rfWC.pre 0)) (rcSt rfWC.sh)).vtO rfWC.outs = vtR := by kernel_rfl
theorem rf_ok {fn : Fn} (h : Good fn) : rfWC.OKg Try.prog fn [some 3] := by
  refine WC.ok_runCg (X := X0) (n := 100000) mixF (X0_ok h) (by kernel_rfl) fun pv w hpv hfn hpre => ⟨by simp [rfWC], ?_, _, RC.ctx_ok (d := 0) hpv hpre, ?_⟩
  · intro p hm
    first
      | (simp [rfWC] at hm; done)
      | (simp only [rfWC, List.mem_singleton] at hm
         subst hm
         show 0 ≤ fn 60 _ ∧ fn 60 _ ≤ 2
         show 0 ≤ fn 60 [(envOf (pvNums pv) fn).v 0, (envOf (pvNums pv) fn).v 1, (envOf (pvNums pv) fn).v 2] ∧ fn 60 [(envOf (pvNums pv) fn).v 0, (envOf (pvNums pv) fn).v 1, (envOf (pvNums pv) fn).v 2] ≤ 2
         rw [h.h60]; split <;> decide)
  · show ((run (callT Try.prog X0 100000 14 (grp .agg [some 3] (rcArgs rfWC.sh)) (rcCtx rfWC.sh rfWC.pre 0)) (rcSt rfWC.sh)).vtO rfWC.outs).holds _ _
    rw [rf_run]
    exact holds_imp (fun v hv => hv.at1) (rf_core (env := envOf (pvNums pv) fn) h)

theorem bRn_ok {env : Env} (h : Good env.f) (ht : tarOk env.f (env.v 0) (env.v 1) (env.v 2)) : ∀ p, p ∈ bRn → p.2.1 ≤ p.1.den env ∧ p.1.den env ≤ p.2.2 := by
  intro p hm
  have hla := lastOf_lt env.f ((env.v 3).tmod (env.v 0)) (env.v 1).toNat (by have := ht.2.2.1; omega)
  have hok := ht.2.2.2.2 (lastOf env.f ((env.v 3).tmod (env.v 0)) (env.v 1).toNat) (by omega)
  unfold okAt at hok
  simp only [bRn, List.mem_cons, List.mem_nil_iff, or_false] at hm
  rcases hm with rfl | rfl
  · show 0 ≤ env.f 72 [env.v 0, env.v 1, env.v 3] ∧ env.f 72 [env.v 0, env.v 1, env.v 3] ≤ 1048576
    rw [h.h72]; exact ⟨hok.2.2.2.1, hok.2.2.2.2.1⟩
  · show 0 ≤ env.f 73 [env.v 0, env.v 1, env.v 3] ∧ env.f 73 [env.v 0, env.v 1, env.v 3] ≤ 1048576
    rw [h.h73]; exact ⟨hok.2.2.2.2.2.1, hok.2.2.2.2.2.2⟩
theorem lf3 {env : Env} (h : Good env.f) {a b c : E} (ha : a.den env = env.f 5000 [(lastOf env.f ((env.v 3).tmod (env.v 0)) (env.v 1).toNat : Int)]) (hb : b.den env = env.f 5001 [(lastOf env.f ((env.v 3).tmod (env.v 0)) (env.v 1).toNat : Int)])
    (hc : c.den env = env.f 5002 [(lastOf env.f ((env.v 3).tmod (env.v 0)) (env.v 1).toNat : Int)]) : ∀ j, j < 3 → (([a, b, c] : List E).getD j (.lit 0)).den env = env.f (71 + j) (selV [0, 1, 3] env) := fun j hj => by
  rcases (by omega : j = 0 ∨ j = 1 ∨ j = 2) with rfl | rfl | rfl
  · exact ha.trans (h.h71 ..).symm
  · exact hb.trans (h.h72 ..).symm
  · exact hc.trans (h.h73 ..).symm
theorem n1 {env : Env} (ht : tarOk env.f (env.v 0) (env.v 1) (env.v 2)) (hb : env.v 1 < 2) : lastOf env.f ((env.v 3).tmod (env.v 0)) (env.v 1).toNat = 0 := by
  rw [show (env.v 1).toNat = 1 by have := ht.2.2.1; omega, lastOf_one]
theorem bd_core1 {env : Env} (h : Good env.f) (ht : tarOk env.f (env.v 0) (env.v 1) (env.v 2)) (hb : env.v 1 < 2) : vtB1.holds env fun u => ∀ j, j < 3 → (u.nums.getD j (.lit 0)).den env = env.f (71 + j) (selV [0, 1, 3] env) := by
  have e0 := n1 ht hb
  simp only [vtB1, VT.holds, SV.nums, SV.numsL, List.append_nil, List.nil_append, List.cons_append, den_lit, den_var, den_ite, den_cmp, den_cmpB, den_tst, den_tstF, den_negT, den_negF, den_andT, den_andF, lssT, leqT, gtrT, geqT, eqlT, neqT, lssF, leqF, gtrF, geqF, eqlF, neqF, den_app, den_nilL, den_consL, den_add, den_sub, den_mul, den_tdiv, den_tmod, den_mx, den_mn, den_blit, den_bin, binI]
  refine ⟨by have := ht.2.2.1; omega, lf3 h ?_ ?_ ?_⟩ <;> (rw [e0]; rfl)
theorem rb_core1 {env : Env} (h : Good env.f) (ht : tarOk env.f (env.v 0) (env.v 1) (env.v 2)) (hb : env.v 1 < 2) : vtR1.holds env fun u => ∀ j, j < 3 → (u.nums.getD j (.lit 0)).den env = env.f (71 + j) (selV [0, 1, 3] env) := by
  have e0 := n1 ht hb
  have t1 := ht.1
  have t5 := ht.2.2.1
  simp only [vtR1, VT.holds, SV.nums, SV.numsL, List.append_nil, List.nil_append, List.cons_append, den_lit, den_var, den_ite, den_cmp, den_cmpB, den_tst, den_tstF, den_negT, den_negF, den_andT, den_andF, lssT, leqT, gtrT, geqT, eqlT, neqT, lssF, leqF, gtrF, geqF, eqlF, neqF, den_app, den_nilL, den_consL, den_add, den_sub, den_mul, den_tdiv, den_tmod, den_mx, den_mn, den_blit, den_bin, binI]
  refine ⟨fun _ => ⟨by omega, fun _ => lf3 h ?_ ?_ ?_, fun _ => lf3 h ?_ ?_ ?_⟩, fun hx => by omega⟩ <;> (rw [e0]; rfl)
theorem bd_core2 {env : Env} (h : Good env.f) (ht : tarOk env.f (env.v 0) (env.v 1) (env.v 2)) (hb : 2 ≤ env.v 1) : vtB2.holds env fun u => ∀ j, j < 3 → (u.nums.getD j (.lit 0)).den env = env.f (71 + j) (selV [0, 1, 3] env) := by
  have hok := ht.2.2.2.2 0 (by have := ht.2.2.1; omega)
  unfold okAt at hok
  have t1 := ht.1
  have t5 := ht.2.2.1
  simp only [vtB2, VT.holds, SV.nums, SV.numsL, List.append_nil, List.nil_append, List.cons_append, den_lit, den_var, den_ite, den_cmp, den_cmpB, den_tst, den_tstF, den_negT, den_negF, den_andT, den_andF, lssT, leqT, gtrT, geqT, eqlT, neqT, lssF, leqF, gtrF, geqF, eqlF, neqF, den_app, den_nilL, den_consL, den_add, den_sub, den_mul, den_tdiv, den_tmod, den_mx, den_mn, den_blit, den_bin, binI]
  refine ⟨hok.2.2.2.1, hok.2.2.2.2.1, hok.2.2.2.2.2.1, hok.2.2.2.2.2.2, by omega, by omega, by omega, lf3 h ?_ ?_ ?_⟩
  · exact h.h41 ..
  · exact h.h42 ..
  · exact h.h43 ..
theorem rb_core2 {env : Env} (h : Good env.f) (ht : tarOk env.f (env.v 0) (env.v 1) (env.v 2)) (hb : 2 ≤ env.v 1) : vtR2.holds env fun u => ∀ j, j < 3 → (u.nums.getD j (.lit 0)).den env = env.f (71 + j) (selV [0, 1, 3] env) := by
  have t1 := ht.1
  have t5 := ht.2.2.1
  have e51 : env.f 51 [0, 0, env.v 0, env.v 1, env.v 3] = (lastOf env.f ((env.v 3).tmod (env.v 0)) (env.v 1).toNat : Int) := h.h51 ..
  simp only [vtR2, VT.holds, SV.nums, SV.numsL, List.append_nil, List.nil_append, List.cons_append, den_lit, den_var, den_ite, den_cmp, den_cmpB, den_tst, den_tstF, den_negT, den_negF, den_andT, den_andF, lssT, leqT, gtrT, geqT, eqlT, neqT, lssF, leqF, gtrF, geqF, eqlF, neqF, den_app, den_nilL, den_consL, den_add, den_sub, den_mul, den_tdiv, den_tmod, den_mx, den_mn, den_blit, den_bin, binI]
  refine ⟨by omega, by omega, by omega, lf3 h ?_ ?_ ?_⟩
  · show env.f 5000 [env.f 51 [0, 0, env.v 0, env.v 1, env.v 3]] = _
    rw [e51]
  · show env.f 5001 [env.f 51 [0, 0, env.v 0, env.v 1, env.v 3]] = _
    rw [e51]
  · show env.f 5002 [env.f 51 [0, 0, env.v 0, env.v 1, env.v 3]] = _
    rw [e51]
/-- as WC.ok_runCg, with a run chosen by the parameters -/
theorem WC.OKg_or {P : Program} {fn : Nat → List Int → Int} {g : Grp} {c : WC} (hmix : P.follows .mixedOrders = true) (hent : (entered P c.f).isSome = true)
    (h : ∀ pv w, pvAll w c.shs pv → FnRows fn c.shs pv 0 → (∀ b, b ∈ c.pre → b.den (envOf (pvNums pv) fn) = true) →
      (∀ b, b ∈ c.facts → b.den (envOf (pvNums pv) fn) = true) ∧ (∀ p, p ∈ c.rngs → p.2.1 ≤ p.1.den (envOf (pvNums pv) fn) ∧ p.1.den (envOf (pvNums pv) fn) ≤ p.2.2) ∧
      ∃ X, ∃ _ : ParOK P fn X, ∃ n, ∃ cx : Ctx, ∃ _ : cx.ok (envOf (pvNums pv) fn), ((run (callT P X n c.f (grp .agg g (rcArgs c.sh)) cx) (rcSt c.sh)).vtO c.outs).holds (envOf (pvNums pv) fn) fun u => ∀ j, j < ocN c.outs → (u.nums.getD j (.lit 0)).den (envOf (pvNums pv) fn) = fn (c.K + j) (selV c.sel (envOf (pvNums pv) fn))) : c.OKg P fn g := by
  refine ⟨hent, fun pv w hw hfn hpre => ?_⟩
  obtain ⟨h1, h2, X, hX, n, cx0, hcx0, h3⟩ := h pv w hw hfn hpre
  refine ⟨h1, fun e lo hi hm => h2 _ hm, ?_⟩
  obtain ⟨ρ, p3, p4⟩ := places 0 hw
  have hv : ∀ j, j < (pvNums pv).length → (envOf (pvNums pv) fn).v (0 + j) = (pvNums pv).getD j 0 := fun j hj => by simp [envOf]
  have hs : HS (envOf (pvNums pv) fn) ρ w.heap.size (shStore c.shs 0 0) w := by
    refine ⟨?_, ?_, ?_, Nat.le_refl _, ?_, hX.rows⟩
    · intro b v hg
      obtain ⟨r, o, e, ho, hb⟩ := shStore_blk hw p4 hfn hv b v hg
      exact ⟨r, o, e, fun hvd => ⟨(hb hvd).1, (fun h => by rw [ho] at h; cases h), fun _ => (hb hvd).2⟩⟩
    · intro b p e
      have := p3 b p e
      exact shStore_dom (by omega) (by omega)
    · intro b b' r o o' e e' hr hd hd'
      cases hg : (shStore c.shs 0 0).get b with
      | none =>
        have := p3 b _ e
        exact absurd hg (shStore_dom (by omega) (by omega))
      | some v =>
        rw [hg] at hd
        obtain ⟨r', o', e1, ho, hb⟩ := shStore_blk hw p4 hfn hv b v hg
        rw [e] at e1
        cases e1
        have := (hb hd.void).2
        omega
    · intro b v hg
      obtain ⟨r, o, e, ho, hb⟩ := shStore_blk hw p4 hfn hv b v hg
      cases v with
      | vec => cases ho
      | _ => exact trivial
  refine (calls_runO hmix hX (env := envOf (pvNums pv) fn) rfl hcx0 (grp_rep (selBy_rep (shArgs_rep hw p4 hv))) hs (PT.holdsO_vt (Q := fun es => ∀ j, j < ocN c.outs → (es.getD j (.lit 0)).den (envOf (pvNums pv) fn) = fn (c.K + j) (selV c.sel (envOf (pvNums pv) fn))) h3)).mono ?_
  rintro e w' ⟨v, cx', h', ρ', V, ⟨v', cx2, vs, es, e1, hun, hop, hq⟩, hcx, rfl, hr, _, hs', hb⟩
  cases e1
  obtain ⟨us, hru, rfl⟩ := unOne_ok hun hr (fun hne => by rw [(openO_len hop).1]; exact hne)
  exact ⟨us, rfl, (openO_ok hcx hs' hop hru hq).le (Nat.le_refl _) (fun _ _ _ => trivial), hb⟩
theorem bd_run1 : (run (callT Try.prog noPar 100000 bdWC.f (grp .agg gB (rcArgs bdWC.sh)) (assumeJ 50 (rcCtx bdWC.sh bdWC.pre 0) (.cmp .lss (.var 1) (.lit 2)) true)) (rcSt bdWC.sh)).vtO bdWC.outs = vtB1 := by kernel_rfl
theorem bd_run2 : (run (callT Try.prog X0 100000 bdWC.f (grp .agg gB (rcArgs bdWC.sh)) (assumeJ 50 (rcCtx bdWC.sh bdWC.pre 0) (.cmp .lss (.var 1) (.lit 2)) false)) (rcSt bdWC.sh)).vtO bdWC.outs = vtB2 := by kernel_rfl
theorem bd_ok {fn : Fn} (h : Good fn) : bdWC.OKg Try.prog fn gB := by
  have key : ∀ pv : List PV, (∀ b, b ∈ bdWC.pre → b.den (envOf (pvNums pv) fn) = true) → tarOk fn ((envOf (pvNums pv) fn).v 0) ((envOf (pvNums pv) fn).v 1) ((envOf (pvNums pv) fn).v 2) := fun pv hp => (okBP (env := envOf (pvNums pv) fn) h).1 (hp okB (by simp [bdWC]))
  refine WC.OKg_or mixF (by kernel_rfl) fun pv w hpv hfn hpre => ?_
  have ht := key pv hpre
  refine ⟨by simp [bdWC], fun p hm => ?_, ?_⟩
  · exact bRn_ok (env := envOf (pvNums pv) fn) h ht p hm
  · cases hb : BE.den (envOf (pvNums pv) fn) (.cmp .lss (.var 1) (.lit 2)) with
    | true => exact ⟨noPar, noPar_ok fn h.rows, 100000, _, assumeJ_ok 50 (RC.ctx_ok (d := 0) hpv hpre) hb, by
        rw [bd_run1]
        exact bd_core1 (env := envOf (pvNums pv) fn) h ht (by simpa only [den_lit, den_var, den_ite, den_cmp, den_cmpB, den_tst, den_tstF, den_negT, den_negF, den_andT, den_andF, lssT, leqT, gtrT, geqT, eqlT, neqT, lssF, leqF, gtrF, geqF, eqlF, neqF, den_app, den_nilL, den_consL, den_add, den_sub, den_mul, den_tdiv, den_tmod, den_mx, den_mn, den_blit, den_bin, binI] using hb)⟩
    | false => exact ⟨X0, X0_ok h, 100000, _, assumeJ_ok 50 (RC.ctx_ok (d := 0) hpv hpre) hb, by
        rw [bd_run2]
        exact bd_core2 (env := envOf (pvNums pv) fn) h ht (by simpa only [den_lit, den_var, den_ite, den_cmp, den_cmpB, den_tst, den_tstF, den_negT, den_negF, den_andT, den_andF, lssT, leqT, gtrT, geqT, eqlT, neqT, lssF, leqF, gtrF, geqF, eqlF, neqF, den_app, den_nilL, den_consL, den_add, den_sub, den_mul, den_tdiv, den_tmod, den_mx, den_mn, den_blit, den_bin, binI] using hb)⟩
theorem rb_run1 : (run (callT Try.prog noPar 100000 rbWC.f (grp .agg gB (rcArgs rbWC.sh)) (assumeJ 50 (rcCtx rbWC.sh rbWC.pre 0) (.cmp .lss (.var 1) (.lit 2)) true)) (rcSt rbWC.sh)).vtO rbWC.outs = vtR1 := by kernel_rfl
theorem rb_run2 : (run (callT Try.prog X0 100000 rbWC.f (grp .agg gB (rcArgs rbWC.sh)) (assumeJ 50 (rcCtx rbWC.sh rbWC.pre 0) (.cmp .lss (.var 1) (.lit 2)) false)) (rcSt rbWC.sh)).vtO rbWC.outs = vtR2 := by kernel_rfl
theorem rb_ok {fn : Fn} (h : Good fn) : rbWC.OKg Try.prog fn gB := by
  have key : ∀ pv : List PV, (∀ b, b ∈ rbWC.pre → b.den (envOf (pvNums pv) fn) = true) → tarOk fn ((envOf (pvNums pv) fn).v 0) ((envOf (pvNums pv) fn).v 1) ((envOf (pvNums pv) fn).v 2) := fun pv hp => (okBP (env := envOf (pvNums pv) fn) h).1 (hp okB (by simp [rbWC]))
  refine WC.OKg_or mixF (by kernel_rfl) fun pv w hpv hfn hpre => ?_
  have ht := key pv hpre
  refine ⟨by simp [rbWC], fun p hm => ?_, ?_⟩
  · exact bRn_ok (env := envOf (pvNums pv) fn) h ht p hm
  · cases hb : BE.den (envOf (pvNums pv) fn) (.cmp .lss (.var 1) (.lit 2)) with
    | true => exact ⟨noPar, noPar_ok fn h.rows, 100000, _, assumeJ_ok 50 (RC.ctx_ok (d := 0) hpv hpre) hb, by
        rw [rb_run1]
        exact rb_core1 (env := envOf (pvNums pv) fn) h ht (by simpa only [den_lit, den_var, den_ite, den_cmp, den_cmpB, den_tst, den_tstF, den_negT, den_negF, den_andT, den_andF, lssT, leqT, gtrT, geqT, eqlT, neqT, lssF, leqF, gtrF, geqF, eqlF, neqF, den_app, den_nilL, den_consL, den_add, den_sub, den_mul, den_tdiv, den_tmod, den_mx, den_mn, den_blit, den_bin, binI] using hb)⟩
    | false => exact ⟨X0, X0_ok h, 100000, _, assumeJ_ok 50 (RC.ctx_ok (d := 0) hpv hpre) hb, by
        rw [rb_run2]
        exact rb_core2 (env := envOf (pvNums pv) fn) h ht (by simpa only [den_lit, den_var, den_ite, den_cmp, den_cmpB, den_tst, den_tstF, den_negT, den_negF, den_andT, den_andF, lssT, leqT, gtrT, geqT, eqlT, neqT, lssF, leqF, gtrF, geqF, eqlF, neqF, den_app, den_nilL, den_consL, den_add, den_sub, den_mul, den_tdiv, den_tmod, den_mx, den_mn, den_blit, den_bin, binI] using hb)⟩
theorem wk_ok {fn : Fn} (h : Good fn) : wkFC.OK Try.prog fn := by
  refine FC.ok_eqv (X := noPar) (d := 1) (n := 100000) (t := .leaf (.bool (.lit true))) mixF (noPar_ok fn h.rows) rfl (by kernel_rfl) (by kernel_rfl) fun r hw _ => ⟨by simp [wkFC], by simp [wkFC], ?_⟩
  exact rfl
theorem XW_ok {fn : Fn} (h : Good fn) : ParOK Try.prog fn XW := FC.parOK (wk_ok h) rfl (WC.parOKg (is_ok h) rfl (WC.parOKg (rf_ok h) rfl (WC.parOKg (bd_ok h) rfl (WC.parOKg (rb_ok h) rfl (noPar_ok fn h.rows)))))
end Go.Proofs.Ytlbmeamjgdgbmaa
