/- The contract of the reference's Behind: two loops that halve. -/
import Derived.Test.YtbabgjpjfjlniaaSe5
namespace Go.Proofs.Ytbabgjpjfjlniaa
open Go Go.SX Go.RowKit SE
set_option linter.unusedVariables false
set_option linter.unusedSimpArgs false
set_option maxRecDepth 100000
def valid : List BE := lims (.var 0) 0 1073741824 ++ lims (.var 1) 1 1073741824 ++ lims (.var 2) (-1073741824) 1073741824 ++ [.cmp .leq (.var 2) (.var 3), .cmp .leq (.var 3) (.lit 1073741824), .cmp .geq (.var 3) (.lit (-1073741824))]
def ct1 : CT := (.ite (.cmp .lss (.var 5) (.var 6)) (.need (.cmp .leq (.op .add (.op .add (.app 1 [(.op .add (.var 5) (.var 6)), (.lit 2)]) (.var 0)) (.op .tdiv (.var 1) (.lit 2))) (.lit 17592186044416)) (.ite (.cmp .geq (.op .mx (.var 2) (.op .mn (.op .mul (.var 1) (.app 1 [(.op .add (.op .add (.app 1 [(.op .add (.var 5) (.var 6)), (.lit 2)]) (.var 0)) (.op .tdiv (.var 1) (.lit 2))), (.var 1)])) (.var 3))) (.var 4)) (.again [(.var 5), (.app 1 [(.op .add (.var 5) (.var 6)), (.lit 2)])]) (.again [(.op .add (.app 1 [(.op .add (.var 5) (.var 6)), (.lit 2)]) (.lit 1)), (.var 6)]))) (.exit 0 [(.var 5)]))
def ct2 : CT := (.ite (.cmp .lss (.var 5) (.var 6)) (.need (.cmp .geq (.op .add (.op .sub (.app 1 [(.op .add (.var 5) (.var 6)), (.lit 2)]) (.var 0)) (.op .tdiv (.var 1) (.lit 2))) (.lit (-17592186044416))) (.need (.cmp .leq (.op .add (.op .sub (.app 1 [(.op .add (.var 5) (.var 6)), (.lit 2)]) (.var 0)) (.op .tdiv (.var 1) (.lit 2))) (.lit 17592186044416)) (.ite (.cmp .gtr (.op .mx (.var 2) (.op .mn (.op .mul (.var 1) (.app 1 [(.op .add (.op .sub (.app 1 [(.op .add (.var 5) (.var 6)), (.lit 2)]) (.var 0)) (.op .tdiv (.var 1) (.lit 2))), (.var 1)])) (.var 3))) (.var 4)) (.again [(.var 5), (.app 1 [(.op .add (.var 5) (.var 6)), (.lit 2)])]) (.again [(.op .add (.app 1 [(.op .add (.var 5) (.var 6)), (.lit 2)]) (.lit 1)), (.var 6)])))) (.exit 0 [(.var 5)]))
def loopC (K : Nat) (lo hi : Nat) (keep : List Nat) (ex : Nat) (ct : CT) : LC :=
  ⟨5, 2, [(lo, .int .i64 (.var 5)), (hi, .int .i64 (.var 6))], [], keep, [(-1099511627776, 1099511627777), (-1099511627776, 1099511627777)], .cmp .leq (.var 5) (.var 6) :: valid,
  [⟨.exit ex, 1, [(lo, .int .i64 (.var 5))], []⟩], ct, [], K, [], [(.app (K + 1) ([.var 5, .var 6] ++ fiveE), -1099511627776, 1099511627777)], fiveE⟩
def L1 : LC := loopC 10 6 7 [1, 2, 4, 5] 0 ct1
def L2 : LC := loopC 12 6 7 [1, 2, 4, 5, 9] 2 ct2
def loops : LBook := fun f i => if f == 10 && i == 5 then some (fun _ _ => some L1) else if f == 10 && i == 12 then some (fun _ _ => some L2) else none

theorem ct_ite (env : Env) (c : BE) (t e : CT) : (CT.ite c t e).ev env = if c.den env = true then t.ev env else e.ev env := by simp only [CT.ev]; cases c.den env <;> rfl
theorem ct_need (env : Env) (c : BE) (t : CT) : (CT.need c t).ev env = if c.den env = true then t.ev env else none := by simp only [CT.ev]; cases c.den env <;> rfl
theorem ct_again (env : Env) (es : List E) : (CT.again es).ev env = some (0, denL env es) := rfl
theorem ct_exit (env : Env) (j : Nat) (es : List E) : (CT.exit j es).ev env = some (j + 1, denL env es) := rfl
section
variable (env : Env) (a b : Int)
theorem up0 : (env.upd 5 [a, b]).v 0 = env.v 0 := rfl
theorem up1 : (env.upd 5 [a, b]).v 1 = env.v 1 := rfl
theorem up2 : (env.upd 5 [a, b]).v 2 = env.v 2 := rfl
theorem up3 : (env.upd 5 [a, b]).v 3 = env.v 3 := rfl
theorem up4 : (env.upd 5 [a, b]).v 4 = env.v 4 := rfl
theorem up5 : (env.upd 5 [a, b]).v 5 = a := rfl
theorem up6 : (env.upd 5 [a, b]).v 6 = b := rfl
theorem upf : (env.upd 5 [a, b]).f = env.f := rfl
end
theorem mx_into (s L M : Int) : max L (min s M) = into s L M := rfl
theorem L1_ct {env : Env} (hf : env.f = sfn) (hv : okS (env.v 0) (env.v 1) (env.v 2) (env.v 3)) (lo hi : Int) (h1 : -1099511627776 ≤ lo) (h2 : lo ≤ hi) (h3 : hi ≤ 1099511627777) :
    ct1.ev (env.upd 5 [lo, hi]) = if lo < hi then (if c1 (env.v 0) (env.v 1) (env.v 2) (env.v 3) (env.v 4) ≤ (lo + hi) / 2 then some (0, [lo, (lo + hi) / 2]) else some (0, [(lo + hi) / 2 + 1, hi])) else some (1, [lo]) := by
  simp only [ct1, ct_ite, ct_need, ct_again, ct_exit, den_lit, den_var, den_ite, den_cmp, den_cmpB, den_tst, den_tstF, den_negT, den_negF, den_andT, den_andF, lssT, leqT, gtrT, geqT, eqlT, neqT, lssF, leqF, gtrF, geqF, eqlF, neqF, den_app, den_nilL, den_consL, den_add, den_sub, den_mul, den_tdiv, den_tmod, den_mx, den_mn, up0, up1, up2, up3, up4, up5, up6, upf, hf, sfn1]
  by_cases hlt : lo < hi
  · rw [if_pos hlt, if_pos hlt]
    have hd := half hv.2.1.1
    have hx : isQ ((lo + hi) / 2) := by unfold isQ; omega
    have g := c1_ge (r := env.v 4) hv hx
    have hv2 := hv
    unfold okS at hv2
    rw [hd, if_pos (by omega)]
    unfold st at g
    simp only [g]
  · rw [if_neg hlt, if_neg hlt]
theorem L2_ct {env : Env} (hf : env.f = sfn) (hv : okS (env.v 0) (env.v 1) (env.v 2) (env.v 3)) (lo hi : Int) (h1 : -1099511627776 ≤ lo) (h2 : lo ≤ hi) (h3 : hi ≤ 1099511627777) :
    ct2.ev (env.upd 5 [lo, hi]) = if lo < hi then (if c2 (env.v 0) (env.v 1) (env.v 2) (env.v 3) (env.v 4) ≤ (lo + hi) / 2 then some (0, [lo, (lo + hi) / 2]) else some (0, [(lo + hi) / 2 + 1, hi])) else some (1, [lo]) := by
  simp only [ct2, ct_ite, ct_need, ct_again, ct_exit, den_lit, den_var, den_ite, den_cmp, den_cmpB, den_tst, den_tstF, den_negT, den_negF, den_andT, den_andF, lssT, leqT, gtrT, geqT, eqlT, neqT, lssF, leqF, gtrF, geqF, eqlF, neqF, den_app, den_nilL, den_consL, den_add, den_sub, den_mul, den_tdiv, den_tmod, den_mx, den_mn, up0, up1, up2, up3, up4, up5, up6, upf, hf, sfn1]
  by_cases hlt : lo < hi
  · rw [if_pos hlt, if_pos hlt]
    have hd := half hv.2.1.1
    have hx : isQ ((lo + hi) / 2) := by unfold isQ; omega
    have g := c2_gt (r := env.v 4) hv hx
    have hv2 := hv
    unfold okS at hv2
    rw [hd, if_pos (by omega), if_pos (by omega)]
    unfold st at g
    simp only [g]
  · rw [if_neg hlt, if_neg hlt]
/-- what holds at the head, as numbers -/
theorem head_ok {env : Env} {K : Nat} {keep : List Nat} {ex : Nat} {ct : CT} (hv : okS (env.v 0) (env.v 1) (env.v 2) (env.v 3)) (lo hi : Int) (h1 : -1099511627776 ≤ lo) (h2 : lo ≤ hi) (h3 : hi ≤ 1099511627777) :
    HeadOK env (loopC K 6 7 keep ex ct) [lo, hi] := by
  unfold okS at hv
  refine ⟨?_, ?_⟩
  · intro i p q h
    rcases i with _ | _ | i
    · simp only [loopC, List.getElem?_cons_zero, Option.some.injEq, Prod.mk.injEq] at h
      obtain ⟨rfl, rfl⟩ := h
      exact ⟨h1, show lo ≤ _ by omega⟩
    · simp only [loopC, List.getElem?_cons_succ, List.getElem?_cons_zero, Option.some.injEq, Prod.mk.injEq] at h
      obtain ⟨rfl, rfl⟩ := h
      exact ⟨show _ ≤ hi by omega, h3⟩
    · simp [loopC] at h
  · intro b hb
    simp only [loopC, valid, lims, List.cons_append, List.nil_append, List.mem_cons, List.not_mem_nil, or_false] at hb
    rcases hb with rfl | rfl | rfl | rfl | rfl | rfl | rfl | rfl | rfl | rfl <;>
      (simp only [den_lit, den_var, den_ite, den_cmp, den_cmpB, den_tst, den_tstF, den_negT, den_negF, den_andT, den_andF, lssT, leqT, gtrT, geqT, eqlT, neqT, lssF, leqF, gtrF, geqF, eqlF, neqF, den_app, den_nilL, den_consL, den_add, den_sub, den_mul, den_tdiv, den_tmod, den_mx, den_mn, loopC, up0, up1, up2, up3, up4, up5, up6]; omega)
theorem head_get {env : Env} {K : Nat} {keep : List Nat} {ex : Nat} {ct : CT} {lo hi : Int} (h : HeadOK env (loopC K 6 7 keep ex ct) [lo, hi]) :
    okS (env.v 0) (env.v 1) (env.v 2) (env.v 3) ∧ -1099511627776 ≤ lo ∧ lo ≤ hi ∧ hi ≤ 1099511627777 := by
  have r1 := h.1 0 _ _ rfl
  have r2 := h.1 1 _ _ rfl
  have b0 := h.2 (.cmp .leq (.var 5) (.var 6)) (by simp [loopC])
  have b1 := h.2 (.cmp .geq (.var 0) (.lit 0)) (by simp [loopC, valid, lims])
  have b2 := h.2 (.cmp .leq (.var 0) (.lit 1073741824)) (by simp [loopC, valid, lims])
  have b3 := h.2 (.cmp .geq (.var 1) (.lit 1)) (by simp [loopC, valid, lims])
  have b4 := h.2 (.cmp .leq (.var 1) (.lit 1073741824)) (by simp [loopC, valid, lims])
  have b5 := h.2 (.cmp .geq (.var 2) (.lit (-1073741824))) (by simp [loopC, valid, lims])
  have b6 := h.2 (.cmp .leq (.var 2) (.lit 1073741824)) (by simp [loopC, valid, lims])
  have b7 := h.2 (.cmp .leq (.var 2) (.var 3)) (by simp [loopC, valid, lims])
  have b8 := h.2 (.cmp .leq (.var 3) (.lit 1073741824)) (by simp [loopC, valid, lims])
  simp only [den_lit, den_var, den_ite, den_cmp, den_cmpB, den_tst, den_tstF, den_negT, den_negF, den_andT, den_andF, lssT, leqT, gtrT, geqT, eqlT, neqT, lssF, leqF, gtrF, geqF, eqlF, neqF, den_app, den_nilL, den_consL, den_add, den_sub, den_mul, den_tdiv, den_tmod, den_mx, den_mn, loopC, up0, up1, up2, up3, up4, up5, up6] at b0 b1 b2 b3 b4 b5 b6 b7 b8
  have r1' : -1099511627776 ≤ lo ∧ lo ≤ 1099511627777 := r1
  have r2' : -1099511627776 ≤ hi ∧ hi ≤ 1099511627777 := r2
  unfold okS
  omega
theorem two {xs : List Int} (h : xs.length = 2) : ∃ a b, xs = [a, b] := by
  match xs, h with
  | [a, b], _ => exact ⟨a, b, rfl⟩
theorem L1_ok {env : Env} (hf : env.f = sfn) : LoopOK env L1 := by
  intro xs hlen hh hpre
  obtain ⟨lo, hi, rfl⟩ := two hlen
  obtain ⟨hv, h1, h2, h3⟩ := head_get hh
  refine ⟨0, [max lo (min hi (c1 (env.v 0) (env.v 1) (env.v 2) (env.v 3) (env.v 4)))], _, runs_halve (a := -1099511627776) (b := 1099511627777) (fun lo hi h1 h2 h3 => L1_ct hf hv lo hi h1 h2 h3) (fun lo hi h1 h2 h3 => head_ok hv lo hi h1 h2 h3) _ lo hi (Nat.le_refl _) h1 h2 h3, rfl, ?_, ?_, ?_, ?_⟩
  · rw [hf]; unfold sfn; rfl
  · intro i hi'
    have : i = 0 := by have : i < 1 := hi'; omega
    subst this
    rw [hf]
    exact sfn11 lo hi _ _ _ _ _
  · intro b hb; simp [L1, loopC] at hb
  · intro e p q hm
    simp only [L1, loopC, List.mem_singleton, Prod.mk.injEq] at hm
    obtain ⟨rfl, rfl, rfl⟩ := hm
    simp only [fiveE, List.cons_append, List.nil_append, den_lit, den_var, den_ite, den_cmp, den_cmpB, den_tst, den_tstF, den_negT, den_negF, den_andT, den_andF, lssT, leqT, gtrT, geqT, eqlT, neqT, lssF, leqF, gtrF, geqF, eqlF, neqF, den_app, den_nilL, den_consL, den_add, den_sub, den_mul, den_tdiv, den_tmod, den_mx, den_mn, L1, loopC, up0, up1, up2, up3, up4, up5, up6, upf, hf, Nat.reduceAdd, sfn11]
    omega
theorem L2_ok {env : Env} (hf : env.f = sfn) : LoopOK env L2 := by
  intro xs hlen hh hpre
  obtain ⟨lo, hi, rfl⟩ := two hlen
  obtain ⟨hv, h1, h2, h3⟩ := head_get hh
  refine ⟨0, [max lo (min hi (c2 (env.v 0) (env.v 1) (env.v 2) (env.v 3) (env.v 4)))], _, runs_halve (a := -1099511627776) (b := 1099511627777) (fun lo hi h1 h2 h3 => L2_ct hf hv lo hi h1 h2 h3) (fun lo hi h1 h2 h3 => head_ok hv lo hi h1 h2 h3) _ lo hi (Nat.le_refl _) h1 h2 h3, rfl, ?_, ?_, ?_, ?_⟩
  · rw [hf]; unfold sfn; rfl
  · intro i hi'
    have : i = 0 := by have : i < 1 := hi'; omega
    subst this
    rw [hf]
    exact sfn13 lo hi _ _ _ _ _
  · intro b hb; simp [L2, loopC] at hb
  · intro e p q hm
    simp only [L2, loopC, List.mem_singleton, Prod.mk.injEq] at hm
    obtain ⟨rfl, rfl, rfl⟩ := hm
    simp only [fiveE, List.cons_append, List.nil_append, den_lit, den_var, den_ite, den_cmp, den_cmpB, den_tst, den_tstF, den_negT, den_negF, den_andT, den_andF, lssT, leqT, gtrT, geqT, eqlT, neqT, lssF, leqF, gtrF, geqF, eqlF, neqF, den_app, den_nilL, den_consL, den_add, den_sub, den_mul, den_tdiv, den_tmod, den_mx, den_mn, L2, loopC, up0, up1, up2, up3, up4, up5, up6, upf, hf, Nat.reduceAdd, sfn13]
    omega
def par1 : Par := { par0 with loops := loops }
theorem par1_ok : ParOK Try.prog sfn par1 := by
  refine ⟨par0_ok.book, ?_⟩
  intro env he f i g hg tm s L hL
  simp only [par1, loops] at hg
  split at hg
  · cases hg; cases hL; exact L1_ok he
  · split at hg
    · cases hg; cases hL; exact L2_ok he
    · cases hg
end Go.Proofs.Ytbabgjpjfjlniaa
