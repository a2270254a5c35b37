/- The loop of the law EstimateBehind over all noises. -/
import Derived.Test.YtbabgjpjfjlniaaSe7
namespace Go.Proofs.Ytbabgjpjfjlniaa
open Go Go.SX Go.RowKit SE
set_option linter.unusedVariables false
set_option linter.unusedSimpArgs false
set_option maxRecDepth 100000
def worksFC : FC := ⟨13, [], .bool (.lit true), [], [], []⟩
theorem worksFC_ok : worksFC.OK Try.prog sfn := by
  refine FC.ok_eqv (X := par2) (d := 5) (n := 1000) (t := .leaf (.bool (.and (.cmp .eql (.app 4 [(.lit 3), (.lit 10), (.lit 0), (.lit 100), (.lit 42), (.lit 3)]) (.lit 0)) (.and (.cmp .eql (.app 7 [(.lit 3), (.lit 10), (.lit 0), (.lit 100), (.lit 40)]) (.lit 0)) (.and (.cmp .eql (.app 3 [(.lit 3), (.lit 10), (.lit 0), (.lit 100), (.lit 42), (.lit 3)]) (.lit 50)) (.and (.cmp .eql (.app 5 [(.lit 3), (.lit 10), (.lit 0), (.lit 100), (.lit 40)]) (.lit 32)) (.cmp .eql (.app 6 [(.lit 3), (.lit 10), (.lit 0), (.lit 100), (.lit 40)]) (.lit 47)))))))) mixed par2_ok rfl (by kernel_rfl) (by kernel_rfl) fun r hw _ => ⟨by simp [worksFC], by simp [worksFC], ?_⟩
  simp only [worksFC, VT.holds, SV.eqv, BE.den, E.den, denL, env_f, sfn3, sfn4, sfn5, sfn6, sfn7]
  decide +kernel
def kE : List E := [.var 0, .op .add (.lit 1) (.var 1), .var 2, .op .add (.var 2) (.var 3)]
def rE : E := .app 3 (kE ++ [.var 4, .var 5])
def exE : List E := [.var 0, .var 1, .var 2, .var 3, rE]
def outer : List BE := lims (.var 0) 0 255 ++ lims (.var 1) 0 255 ++ lims (.var 2) (-32768) 32767 ++ lims (.var 3) 0 65535
def ctN : CT := (.ite (.cmp .leq (.var 6) (.var 0)) (.ite (.tst (.ite (.cmp .neq (.app 4 [(.var 0), (.op .add (.lit 1) (.var 1)), (.var 2), (.op .add (.var 2) (.var 3)), (.var 9), (.var 6)]) (.lit 0)) (.lit 1) (.cmp .lss (.app 3 [(.var 0), (.op .add (.lit 1) (.var 1)), (.var 2), (.op .add (.var 2) (.var 3)), (.var 9), (.var 6)]) (.var 8)))) (.exit 1 []) (.again [(.op .add (.var 6) (.lit 1)), (.ite (.ite (.ite (.var 7) (.lit 1) (.lit 0)) (.lit 1) (.cmp .eql (.app 3 [(.var 0), (.op .add (.lit 1) (.var 1)), (.var 2), (.op .add (.var 2) (.var 3)), (.var 9), (.var 6)]) (.app 3 [(.var 0), (.op .add (.lit 1) (.var 1)), (.var 2), (.op .add (.var 2) (.var 3)), (.var 4), (.var 5)]))) (.lit 1) (.lit 0)), (.app 3 [(.var 0), (.op .add (.lit 1) (.var 1)), (.var 2), (.op .add (.var 2) (.var 3)), (.var 9), (.var 6)]), (.var 9)])) (.exit 0 [(.ite (.var 7) (.lit 1) (.lit 0))]))
def loopN (ct : CT) : LC :=
  ⟨6, 4, [(19, .int .i64 (.var 6)), (17, .bool (.tst (.var 7))), (18, .int .i64 (.var 8)), (16, .int .i64 (.var 9))], [], [1, 3, 6, 7, 8, 11, 13, 15], [(-255, 256), (0, 1), (-1099511627776, 1099511627776), (-1099511627776, 1099511627776)],
    outer ++ [.cmp .geq (.var 6) (.op .sub (.lit 0) (.var 0)), .cmp .leq (.var 6) (.op .add (.var 0) (.lit 1)), .neg (.and (.cmp .leq (.var 6) (.var 0)) (.cmp .lss (.app 3 (kE ++ [.var 9, .var 6])) (.var 8)))],
  [⟨.exit 2, 1, [(17, .bool (.tst (.var 6)))], []⟩, ⟨.ret, 0, [], []⟩], ct, [], 20, [.cmp .eql (.app 20 ([.var 6, .var 7, .var 8, .var 9] ++ exE)) (.lit 0)], [(.app 21 ([.var 6, .var 7, .var 8, .var 9] ++ exE), 0, 1)], exE⟩
def LN : LC := loopN ctN
def loopsN : LBook := fun f i => if f == 5 && i == 18 then some (fun _ _ => some LN) else none
section
variable (env : Env) (a b c d : Int)
theorem vp0 : (env.upd 6 [a, b, c, d]).v 0 = env.v 0 := rfl
theorem vp1 : (env.upd 6 [a, b, c, d]).v 1 = env.v 1 := rfl
theorem vp2 : (env.upd 6 [a, b, c, d]).v 2 = env.v 2 := rfl
theorem vp3 : (env.upd 6 [a, b, c, d]).v 3 = env.v 3 := rfl
theorem vp4 : (env.upd 6 [a, b, c, d]).v 4 = env.v 4 := rfl
theorem vp5 : (env.upd 6 [a, b, c, d]).v 5 = env.v 5 := rfl
theorem vp6 : (env.upd 6 [a, b, c, d]).v 6 = a := rfl
theorem vp7 : (env.upd 6 [a, b, c, d]).v 7 = b := rfl
theorem vp8 : (env.upd 6 [a, b, c, d]).v 8 = c := rfl
theorem vp9 : (env.upd 6 [a, b, c, d]).v 9 = d := rfl
theorem vpf : (env.upd 6 [a, b, c, d]).f = env.f := rfl
end
theorem sh_mono {N S L M y n : Int} (h : okS N S L M) (hy : isQ y) (h1 : -N ≤ n) (h2 : n + 1 ≤ N) : shV N S L M y n ≤ shV N S L M y (n + 1) := by
  rw [shV_in h hy (by omega), shV_in h hy (by omega)]
  exact into_mono (st_mono h.2.1.1 (by omega))
/-- what holds at the head, as numbers -/
def Hd (env : Env) (n f b y : Int) : Prop := (0 ≤ env.v 0 ∧ env.v 0 ≤ 255) ∧ (0 ≤ env.v 1 ∧ env.v 1 ≤ 255) ∧ (-32768 ≤ env.v 2 ∧ env.v 2 ≤ 32767) ∧ (0 ≤ env.v 3 ∧ env.v 3 ≤ 65535) ∧
  (0 ≤ f ∧ f ≤ 1) ∧ (-1099511627776 ≤ b ∧ b ≤ 1099511627776) ∧ (-1099511627776 ≤ y ∧ y ≤ 1099511627776) ∧ -env.v 0 ≤ n ∧ n ≤ env.v 0 + 1 ∧
  (n ≤ env.v 0 → b ≤ shV (env.v 0) (1 + env.v 1) (env.v 2) (env.v 2 + env.v 3) y n)
theorem Hd.okS {env : Env} {n f b y : Int} (h : Hd env n f b y) : okS (env.v 0) (1 + env.v 1) (env.v 2) (env.v 2 + env.v 3) := by
  unfold Hd at h; unfold SE.okS; omega
theorem Hd.get {env : Env} (hf : env.f = sfn) {n f b y : Int} (h : HeadOK env LN [n, f, b, y]) : Hd env n f b y := by
  have r1 : -255 ≤ n ∧ n ≤ 256 := h.1 0 _ _ rfl
  have r2 : 0 ≤ f ∧ f ≤ 1 := h.1 1 _ _ rfl
  have r3 : -1099511627776 ≤ b ∧ b ≤ 1099511627776 := h.1 2 _ _ rfl
  have r4 : -1099511627776 ≤ y ∧ y ≤ 1099511627776 := h.1 3 _ _ rfl
  have b1 := h.2 (.cmp .geq (.var 0) (.lit 0)) (by simp [LN, loopN, outer, lims])
  have b2 := h.2 (.cmp .leq (.var 0) (.lit 255)) (by simp [LN, loopN, outer, lims])
  have b3 := h.2 (.cmp .geq (.var 1) (.lit 0)) (by simp [LN, loopN, outer, lims])
  have b4 := h.2 (.cmp .leq (.var 1) (.lit 255)) (by simp [LN, loopN, outer, lims])
  have b5 := h.2 (.cmp .geq (.var 2) (.lit (-32768))) (by simp [LN, loopN, outer, lims])
  have b6 := h.2 (.cmp .leq (.var 2) (.lit 32767)) (by simp [LN, loopN, outer, lims])
  have b7 := h.2 (.cmp .geq (.var 3) (.lit 0)) (by simp [LN, loopN, outer, lims])
  have b8 := h.2 (.cmp .leq (.var 3) (.lit 65535)) (by simp [LN, loopN, outer, lims])
  have b9 := h.2 (.cmp .geq (.var 6) (.op .sub (.lit 0) (.var 0))) (by simp [LN, loopN, outer, lims])
  have b10 := h.2 (.cmp .leq (.var 6) (.op .add (.var 0) (.lit 1))) (by simp [LN, loopN, outer, lims])
  have b11 := h.2 (.neg (.and (.cmp .leq (.var 6) (.var 0)) (.cmp .lss (.app 3 (kE ++ [.var 9, .var 6])) (.var 8)))) (by simp [LN, loopN, outer, lims])
  simp only [kE, den_lit, den_var, den_ite, den_cmp, den_cmpB, den_tst, den_tstF, den_negT, den_negF, den_andT, den_andF, lssT, leqT, gtrT, geqT, eqlT, neqT, lssF, leqF, gtrF, geqF, eqlF, neqF, den_app, den_nilL, den_consL, den_add, den_sub, den_mul, den_tdiv, den_tmod, den_mx, den_mn, List.cons_append, List.nil_append, LN, loopN, vp0, vp1, vp2, vp3, vp4, vp5, vp6, vp7, vp8, vp9, vpf, hf, sfn3] at b1 b2 b3 b4 b5 b6 b7 b8 b9 b10 b11
  unfold Hd
  refine ⟨⟨b1, b2⟩, ⟨b3, b4⟩, ⟨b5, b6⟩, ⟨b7, b8⟩, r2, r3, r4, by omega, b10, fun hn => ?_⟩
  rcases b11 with b11 | b11
  · omega
  · exact b11
theorem Hd.mk {env : Env} (hf : env.f = sfn) {n f b y : Int} (h : Hd env n f b y) : HeadOK env LN [n, f, b, y] := by
  unfold Hd at h
  obtain ⟨h1, h2, h3, h4, h5, h6, h7, h8, h9, h10⟩ := h
  refine ⟨?_, ?_⟩
  · intro i p q hr
    rcases i with _ | _ | _ | _ | i
    · cases hr; exact ⟨show (-255 : Int) ≤ n by omega, show n ≤ 256 by omega⟩
    · cases hr; exact h5
    · cases hr; exact h6
    · cases hr; exact h7
    · simp [LN, loopN] at hr
  · intro be hb
    simp only [LN, loopN, outer, lims, List.cons_append, List.nil_append, List.mem_cons, List.not_mem_nil, or_false] at hb
    rcases hb with rfl | rfl | rfl | rfl | rfl | rfl | rfl | rfl | rfl | rfl | rfl
    all_goals first
      | (simp only [den_lit, den_var, den_ite, den_cmp, den_cmpB, den_tst, den_tstF, den_negT, den_negF, den_andT, den_andF, lssT, leqT, gtrT, geqT, eqlT, neqT, lssF, leqF, gtrF, geqF, eqlF, neqF, den_app, den_nilL, den_consL, den_add, den_sub, den_mul, den_tdiv, den_tmod, den_mx, den_mn, List.cons_append, List.nil_append, LN, loopN, vp0, vp1, vp2, vp3, vp4, vp5, vp6, vp7, vp8, vp9, vpf, hf, sfn3]; omega)
      | (simp only [kE, den_lit, den_var, den_ite, den_cmp, den_cmpB, den_tst, den_tstF, den_negT, den_negF, den_andT, den_andF, lssT, leqT, gtrT, geqT, eqlT, neqT, lssF, leqF, gtrF, geqF, eqlF, neqF, den_app, den_nilL, den_consL, den_add, den_sub, den_mul, den_tdiv, den_tmod, den_mx, den_mn, List.cons_append, List.nil_append, LN, loopN, vp0, vp1, vp2, vp3, vp4, vp5, vp6, vp7, vp8, vp9, vpf, hf, sfn3]
         by_cases hn : n ≤ env.v 0
         · right; exact h10 hn
         · left; omega)
open Classical in
theorem ctN_ev {env : Env} (hf : env.f = sfn) {n f b y : Int} (h : Hd env n f b y) :
    ctN.ev (env.upd 6 [n, f, b, y]) = if n ≤ env.v 0 then some (0, [n + 1, if f ≠ 0 ∨ shV (env.v 0) (1 + env.v 1) (env.v 2) (env.v 2 + env.v 3) y n = shV (env.v 0) (1 + env.v 1) (env.v 2) (env.v 2 + env.v 3) (env.v 4) (env.v 5) then 1 else 0, shV (env.v 0) (1 + env.v 1) (env.v 2) (env.v 2 + env.v 3) y n, y])
      else some (1, [if f ≠ 0 then 1 else 0]) := by
  simp only [ctN, ct_ite, ct_need, ct_again, ct_exit, den_lit, den_var, den_ite, den_cmp, den_cmpB, den_tst, den_tstF, den_negT, den_negF, den_andT, den_andF, lssT, leqT, gtrT, geqT, eqlT, neqT, lssF, leqF, gtrF, geqF, eqlF, neqF, den_app, den_nilL, den_consL, den_add, den_sub, den_mul, den_tdiv, den_tmod, den_mx, den_mn, vp0, vp1, vp2, vp3, vp4, vp5, vp6, vp7, vp8, vp9, vpf, hf, sfn3, sfn4]
  by_cases hn : n ≤ env.v 0
  · have hok := h.okS
    unfold Hd at h
    obtain ⟨h1, h2, h3, h4, h5, h6, h7, h8, h9, h10⟩ := h
    have g := h10 hn
    rw [if_pos hn, if_pos hn, shE_in hok h7 ⟨h8, hn⟩]
    rw [if_neg (by
      generalize shV (env.v 0) (1 + env.v 1) (env.v 2) (env.v 2 + env.v 3) y n = q at *
      rw [if_pos (by simp), if_neg (by omega)]; simp)]
    congr 3
    generalize shV (env.v 0) (1 + env.v 1) (env.v 2) (env.v 2 + env.v 3) y n = q at *
    generalize shV (env.v 0) (1 + env.v 1) (env.v 2) (env.v 2 + env.v 3) (env.v 4) (env.v 5) = q2 at *
    congr 1
    by_cases e1 : f = 0
    · by_cases e2 : q = q2 <;> simp [e1, e2]
    · simp [e1]
  · rw [if_neg hn, if_neg hn]
    by_cases e1 : f = 0 <;> simp [e1]
open Classical in
theorem LN_runs {env : Env} (hf : env.f = sfn) : ∀ (k : Nat) {n f b y : Int}, Hd env n f b y → (env.v 0 + 1 - n).toNat ≤ k →
    Runs env LN [n, f, b, y] 0 [if f ≠ 0 ∨ ∃ m, n ≤ m ∧ m ≤ env.v 0 ∧ shV (env.v 0) (1 + env.v 1) (env.v 2) (env.v 2 + env.v 3) y m = shV (env.v 0) (1 + env.v 1) (env.v 2) (env.v 2 + env.v 3) (env.v 4) (env.v 5) then 1 else 0]
  | 0, n, f, b, y, h, hk => by
      have hn : ¬ n ≤ env.v 0 := by omega
      refine .exit (Hd.mk hf h) ?_
      change ctN.ev _ = _
      rw [show LN.base = 6 from rfl, ctN_ev hf h, if_neg hn]
      have : ¬ ∃ m, n ≤ m ∧ m ≤ env.v 0 ∧ shV (env.v 0) (1 + env.v 1) (env.v 2) (env.v 2 + env.v 3) y m = shV (env.v 0) (1 + env.v 1) (env.v 2) (env.v 2 + env.v 3) (env.v 4) (env.v 5) := by
        rintro ⟨m, h1, h2, _⟩; omega
      simp only [this, or_false]
  | k + 1, n, f, b, y, h, hk => by
      by_cases hn : n ≤ env.v 0
      · have hok := h.okS
        have h0 := h
        unfold Hd at h0
        obtain ⟨h1, h2, h3, h4, h5, h6, h7, h8, h9, h10⟩ := h0
        refine .again (xs' := [n + 1, if f ≠ 0 ∨ shV (env.v 0) (1 + env.v 1) (env.v 2) (env.v 2 + env.v 3) y n = shV (env.v 0) (1 + env.v 1) (env.v 2) (env.v 2 + env.v 3) (env.v 4) (env.v 5) then 1 else 0, shV (env.v 0) (1 + env.v 1) (env.v 2) (env.v 2 + env.v 3) y n, y]) (Hd.mk hf h) (by change ctN.ev _ = _; rw [show LN.base = 6 from rfl, ctN_ev hf h, if_pos hn]) ?_
        have hb := shV_bd (env.v 0) (1 + env.v 1) (env.v 2) (env.v 2 + env.v 3) y n
        have hnew : Hd env (n + 1) (if f ≠ 0 ∨ shV (env.v 0) (1 + env.v 1) (env.v 2) (env.v 2 + env.v 3) y n = shV (env.v 0) (1 + env.v 1) (env.v 2) (env.v 2 + env.v 3) (env.v 4) (env.v 5) then 1 else 0) (shV (env.v 0) (1 + env.v 1) (env.v 2) (env.v 2 + env.v 3) y n) y := by
          refine ⟨h1, h2, h3, h4, ?_, by omega, h7, by omega, by omega, fun hn2 => sh_mono hok h7 h8 hn2⟩
          split <;> omega
        have := LN_runs hf k hnew (by omega)
        have e : ((if f ≠ 0 ∨ shV (env.v 0) (1 + env.v 1) (env.v 2) (env.v 2 + env.v 3) y n = shV (env.v 0) (1 + env.v 1) (env.v 2) (env.v 2 + env.v 3) (env.v 4) (env.v 5) then (1 : Int) else 0) ≠ 0 ∨ ∃ m, n + 1 ≤ m ∧ m ≤ env.v 0 ∧ shV (env.v 0) (1 + env.v 1) (env.v 2) (env.v 2 + env.v 3) y m = shV (env.v 0) (1 + env.v 1) (env.v 2) (env.v 2 + env.v 3) (env.v 4) (env.v 5)) =
            (f ≠ 0 ∨ ∃ m, n ≤ m ∧ m ≤ env.v 0 ∧ shV (env.v 0) (1 + env.v 1) (env.v 2) (env.v 2 + env.v 3) y m = shV (env.v 0) (1 + env.v 1) (env.v 2) (env.v 2 + env.v 3) (env.v 4) (env.v 5)) := by
          apply propext
          constructor
          · rintro (q | ⟨m, q1, q2, q3⟩)
            · split at q
              · rename_i q0
                rcases q0 with q0 | q0
                · exact .inl q0
                · exact .inr ⟨n, Int.le_refl _, hn, q0⟩
              · exact absurd rfl q
            · exact .inr ⟨m, by omega, q2, q3⟩
          · rintro (q | ⟨m, q1, q2, q3⟩)
            · left; rw [if_pos (.inl q)]; decide
            · by_cases hm : m = n
              · subst hm; left; rw [if_pos (.inr q3)]; decide
              · exact .inr ⟨m, by omega, q2, q3⟩
        simp only [e] at this
        exact this
      · refine .exit (Hd.mk hf h) ?_
        change ctN.ev _ = _
        rw [show LN.base = 6 from rfl, ctN_ev hf h, if_neg hn]
        have : ¬ ∃ m, n ≤ m ∧ m ≤ env.v 0 ∧ shV (env.v 0) (1 + env.v 1) (env.v 2) (env.v 2 + env.v 3) y m = shV (env.v 0) (1 + env.v 1) (env.v 2) (env.v 2 + env.v 3) (env.v 4) (env.v 5) := by
          rintro ⟨m, h1, h2, _⟩; omega
        simp only [this, or_false]
theorem four {xs : List Int} (h : xs.length = 4) : ∃ a b c d, xs = [a, b, c, d] := by
  match xs, h with
  | [a, b, c, d], _ => exact ⟨a, b, c, d, rfl⟩
theorem LN_ok {env : Env} (hf : env.f = sfn) : LoopOK env LN := by
  intro xs hlen hh hpre
  obtain ⟨n, f, b, y, rfl⟩ := four hlen
  have h := Hd.get hf hh
  refine ⟨0, _, _, LN_runs hf _ h (Nat.le_refl _), rfl, ?_, ?_, ?_, ?_⟩
  · rw [hf]; exact sfn20 _
  · intro i hi'
    have : i = 0 := by have : i < 1 := hi'; omega
    subst this
    simp only [LN, loopN, exE, rE, kE, den_lit, den_var, den_ite, den_cmp, den_cmpB, den_tst, den_tstF, den_negT, den_negF, den_andT, den_andF, lssT, leqT, gtrT, geqT, eqlT, neqT, lssF, leqF, gtrF, geqF, eqlF, neqF, den_app, den_nilL, den_consL, den_add, den_sub, den_mul, den_tdiv, den_tmod, den_mx, den_mn, List.cons_append, List.nil_append, hf, Nat.reduceAdd, sfn3, sfn21, List.getD_cons_zero]
  · intro be hb
    simp only [LN, loopN, List.mem_singleton] at hb
    subst hb
    simp only [exE, rE, kE, den_lit, den_var, den_ite, den_cmp, den_cmpB, den_tst, den_tstF, den_negT, den_negF, den_andT, den_andF, lssT, leqT, gtrT, geqT, eqlT, neqT, lssF, leqF, gtrF, geqF, eqlF, neqF, den_app, den_nilL, den_consL, den_add, den_sub, den_mul, den_tdiv, den_tmod, den_mx, den_mn, List.cons_append, List.nil_append, LN, loopN, vp0, vp1, vp2, vp3, vp4, vp5, vp6, vp7, vp8, vp9, vpf, hf, sfn20]
  · intro e p q hm
    simp only [LN, loopN, List.mem_singleton, Prod.mk.injEq] at hm
    obtain ⟨rfl, rfl, rfl⟩ := hm
    simp only [exE, rE, kE, den_lit, den_var, den_ite, den_cmp, den_cmpB, den_tst, den_tstF, den_negT, den_negF, den_andT, den_andF, lssT, leqT, gtrT, geqT, eqlT, neqT, lssF, leqF, gtrF, geqF, eqlF, neqF, den_app, den_nilL, den_consL, den_add, den_sub, den_mul, den_tdiv, den_tmod, den_mx, den_mn, List.cons_append, List.nil_append, LN, loopN, vp0, vp1, vp2, vp3, vp4, vp5, vp6, vp7, vp8, vp9, vpf, hf, sfn3, sfn21]
    split <;> omega
def parN : Par := { (worksFC.par par2) with loops := loopsN }
theorem parN_ok : ParOK Try.prog sfn parN := by
  refine ⟨(FC.parOK worksFC_ok rfl par2_ok).book, ?_⟩
  intro env he f i g hg tm s L hL
  simp only [parN, loopsN] at hg
  split at hg
  · cases hg; cases hL; exact LN_ok he
  · cases hg
end Go.Proofs.Ytbabgjpjfjlniaa
