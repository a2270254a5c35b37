/- The contract of the program's Behind. -/
import Derived.Test.YtbabgjpjfjlniaaSe4
namespace Go.Proofs.Ytbabgjpjfjlniaa
open Go Go.SX Go.RowKit SE
set_option linter.unusedVariables false
set_option linter.unusedSimpArgs false
set_option maxRecDepth 100000
def fiveE : List E := [.var 0, .var 1, .var 2, .var 3, .var 4]
def beFC (f : Nat) : FC := ⟨f, sSig, .tuple [.agg [.int .i64 (.app 5 fiveE), .int .i64 (.app 6 fiveE)], .int .i64 (.app 7 fiveE)], [], [], [(.app 5 fiveE, -1099511627776, 1099511627776), (.app 6 fiveE, -1099511627776, 1099511627776)]⟩
def beT1 : VT := (.ite (.cmp .neq (.app 2 [(.var 0), (.var 1), (.var 2), (.var 3)]) (.lit 0)) (.leaf (.tuple [(.agg [(.int .i64 (.lit 0)), (.int .i64 (.lit 0))]), (.int .i64 (.app 2 [(.var 0), (.var 1), (.var 2), (.var 3)]))])) (.ite (.cmp .eql (.var 4) (.var 2)) (.ite (.cmp .lss (.var 4) (.var 3)) (.need (.cmp .geq (.var 4) (.lit (-17592186044416))) (.need (.cmp .leq (.var 4) (.lit 17592186044416)) (.need (.cmp .geq (.var 1) (.lit 1)) (.need (.cmp .leq (.var 1) (.lit 4294967296)) (.leaf (.tuple [(.agg [(.int .i64 (.lit (-1099511627776))), (.int .i64 (.bin .add .i64 (.op .sub (.op .sub (.op .add (.op .mul (.var 1) (.app 1 [(.var 4), (.var 1)])) (.var 1)) (.lit 1)) (.op .tdiv (.var 1) (.lit 2))) (.var 0)))]), (.int .i64 (.lit 0))])))))) (.leaf (.tuple [(.agg [(.int .i64 (.lit (-1099511627776))), (.int .i64 (.lit 1099511627776))]), (.int .i64 (.lit 0))]))) (.ite (.cmp .eql (.var 4) (.var 3)) (.ite (.cmp .gtr (.var 4) (.var 2)) (.need (.cmp .geq (.op .sub (.lit 0) (.var 4)) (.lit (-17592186044416))) (.need (.cmp .leq (.op .sub (.lit 0) (.var 4)) (.lit 17592186044416)) (.need (.cmp .geq (.var 1) (.lit 1)) (.need (.cmp .leq (.var 1) (.lit 4294967296)) (.leaf (.tuple [(.agg [(.int .i64 (.bin .sub .i64 (.op .sub (.op .sub (.lit 0) (.op .mul (.var 1) (.app 1 [(.op .sub (.lit 0) (.var 4)), (.var 1)]))) (.op .tdiv (.var 1) (.lit 2))) (.var 0))), (.int .i64 (.lit 1099511627776))]), (.int .i64 (.lit 0))])))))) (.leaf (.tuple [(.agg [(.int .i64 (.lit (-1099511627776))), (.int .i64 (.lit 1099511627776))]), (.int .i64 (.lit 0))]))) (.ite (.and (.cmp .leq (.var 2) (.var 4)) (.cmp .leq (.var 4) (.var 3))) (.need (.cmp .neq (.var 1) (.lit 0)) (.ite (.neg (.cmp .eql (.op .tmod (.var 4) (.var 1)) (.lit 0))) (.leaf (.tuple [(.agg [(.int .i64 (.lit 0)), (.int .i64 (.lit 0))]), (.int .i64 (.lit 5))])) (.ite (.cmp .gtr (.var 4) (.var 2)) (.need (.cmp .geq (.op .sub (.lit 0) (.var 4)) (.lit (-17592186044416))) (.need (.cmp .leq (.op .sub (.lit 0) (.var 4)) (.lit 17592186044416)) (.need (.cmp .geq (.var 1) (.lit 1)) (.need (.cmp .leq (.var 1) (.lit 4294967296)) (.leaf (.tuple [(.agg [(.int .i64 (.bin .sub .i64 (.op .sub (.op .sub (.lit 0) (.op .mul (.var 1) (.app 1 [(.op .sub (.lit 0) (.var 4)), (.var 1)]))) (.op .tdiv (.var 1) (.lit 2))) (.var 0))), (.int .i64 (.ite (.cmp .lss (.var 4) (.var 3)) (.bin .add .i64 (.op .sub (.op .sub (.op .add (.op .mul (.var 1) (.app 1 [(.var 4), (.var 1)])) (.var 1)) (.lit 1)) (.op .tdiv (.var 1) (.lit 2))) (.var 0)) (.lit 1099511627776)))]), (.int .i64 (.lit 0))])))))) (.ite (.cmp .lss (.var 4) (.var 3)) (.need (.cmp .geq (.var 4) (.lit (-17592186044416))) (.need (.cmp .leq (.var 4) (.lit 17592186044416)) (.need (.cmp .geq (.var 1) (.lit 1)) (.need (.cmp .leq (.var 1) (.lit 4294967296)) (.leaf (.tuple [(.agg [(.int .i64 (.lit (-1099511627776))), (.int .i64 (.bin .add .i64 (.op .sub (.op .sub (.op .add (.op .mul (.var 1) (.app 1 [(.var 4), (.var 1)])) (.var 1)) (.lit 1)) (.op .tdiv (.var 1) (.lit 2))) (.var 0)))]), (.int .i64 (.lit 0))])))))) (.leaf (.tuple [(.agg [(.int .i64 (.lit (-1099511627776))), (.int .i64 (.lit 1099511627776))]), (.int .i64 (.lit 0))])))))) (.leaf (.tuple [(.agg [(.int .i64 (.lit 0)), (.int .i64 (.lit 0))]), (.int .i64 (.lit 5))]))))))
theorem wf5 {r : List (List Int)} (h : wfAll sSig r) : ∃ a b c d x, r = [[a, b, c, d], [x]] ∧ (-9223372036854775808 ≤ a ∧ a ≤ 9223372036854775807) ∧ (-9223372036854775808 ≤ b ∧ b ≤ 9223372036854775807) ∧ (-9223372036854775808 ≤ x ∧ x ≤ 9223372036854775807) := by
  obtain ⟨xs, r1, rfl, hw, _, ys, r2, rfl, hw2, _, e⟩ := h
  obtain ⟨a, b, c, d, rfl, h1, h2, h3, h4⟩ := wf4 hw
  obtain ⟨x, rfl, h5⟩ := wf1 hw2
  rw [show r2 = [] from e]
  exact ⟨a, b, c, d, x, rfl, h1, h2, h5⟩
theorem beT1_holds {N S L M r : Int} (h1 : -9223372036854775808 ≤ N ∧ N ≤ 9223372036854775807) (h2 : -9223372036854775808 ≤ S ∧ S ≤ 9223372036854775807) (h5 : -9223372036854775808 ≤ r ∧ r ≤ 9223372036854775807) :
    beT1.holds (envOf (List.flatten [[N, S, L, M], [r]]) sfn) fun u => u.eqv (envOf (List.flatten [[N, S, L, M], [r]]) sfn) (beFC 9).v := by
  simp only [beT1, beFC, fiveE, VT.holds, SV.eqv, SV.eqvL, den_bin, binI, den_lit, den_var, den_ite, den_cmp, den_cmpB, den_tst, den_tstF, den_negT, den_negF, den_andT, den_andF, lssT, leqT, gtrT, geqT, eqlT, neqT, lssF, leqF, gtrF, geqF, eqlF, neqF, den_app, den_nilL, den_consL, den_add, den_sub, den_mul, den_tdiv, den_tmod, den_mx, den_mn, env_v, env_f, List.flatten_cons, List.flatten_nil, List.append_nil, List.cons_append, List.nil_append, List.getD_cons_zero, List.getD_cons_succ, List.getD_nil, sfn1, sfn2, sfn5, sfn6, sfn7]
  rcases chk_cases N S L M with ⟨hok, hc⟩ | ⟨hok, hc⟩
  · rw [hc]
    have hd := half hok.2.1.1
    have f1 := fl_mul r hok.2.1.1
    have f2 := fl_mul (-r) hok.2.1.1
    have ht := tmod0 (n := r) (d := S)
    have hp : poss S L M r ↔ (r = L ∨ r = M ∨ ((L ≤ r ∧ r ≤ M) ∧ r % S = 0)) := Iff.rfl
    simp only [bLo, bHi, bE, hok, true_and, if_true, lo1, hi1, Int.zero_sub]
    unfold okS at hok
    rw [hd]
    generalize hk1 : S * (r / S) = k1 at *
    generalize hk2 : S * ((-r) / S) = k2 at *
    generalize hm : r % S = m at *
    generalize hm2 : r.tmod S = m2 at *
    by_cases hpp : poss S L M r
    · simp only [hpp, if_true]
      rw [hp] at hpp
      have w1 : IntKind.i64.wrap (k1 + S - 1 - S / 2 + N) = k1 + S - 1 - S / 2 + N := wrap_i64 (by omega) (by omega)
      have w2 : IntKind.i64.wrap (-k2 - S / 2 - N) = -k2 - S / 2 - N := wrap_i64 (by omega) (by omega)
      rw [w1, w2]
      clear hk1 hk2 hm hm2 w1 w2 hd
      repeat' (first | apply And.intro | intro _)
      all_goals first | trivial | omega | (split <;> omega) | (split <;> split <;> omega)
    · simp only [hpp, if_false]
      rw [hp] at hpp
      clear hk1 hk2 hm hm2 hd
      repeat' (first | apply And.intro | intro _)
      all_goals first | trivial | omega
  · rw [hc]
    simp only [bLo, bHi, bE, hok, false_and, if_false]
    refine ⟨fun _ => by simp, fun hq => ?_⟩
    exfalso; revert hq; simp
theorem beR {f : Nat} (a b c d x : Int) : ∀ p, p ∈ (beFC f).rngs → p.2.1 ≤ p.1.den (envOf (List.flatten [[a, b, c, d], [x]]) sfn) ∧ p.1.den (envOf (List.flatten [[a, b, c, d], [x]]) sfn) ≤ p.2.2 := by
  intro p hm
  simp only [beFC, List.mem_cons, List.not_mem_nil, or_false] at hm
  rcases hm with rfl | rfl
  · simp only [fiveE, den_app, den_nilL, den_consL, den_var, env_v, env_f, List.flatten_cons, List.flatten_nil, List.append_nil, List.cons_append, List.nil_append, List.getD_cons_zero, List.getD_cons_succ, List.getD_nil, sfn5, bLo]
    split
    · rename_i h; have := ends_bd h.1 h.2; omega
    · omega
  · simp only [fiveE, den_app, den_nilL, den_consL, den_var, env_v, env_f, List.flatten_cons, List.flatten_nil, List.append_nil, List.cons_append, List.nil_append, List.getD_cons_zero, List.getD_cons_succ, List.getD_nil, sfn6, bHi]
    split
    · rename_i h; have := ends_bd h.1 h.2; omega
    · omega
theorem be1_ok : (beFC 9).OK Try.prog sfn := by
  refine FC.ok_eqv (X := par0) (d := 5) (n := 1000) (t := beT1) mixed par0_ok rfl (by kernel_rfl) (by kernel_rfl) fun r hw hpre => ?_
  obtain ⟨a, b, c, d, x, rfl, h1, h2, h5⟩ := wf5 hw
  exact ⟨by simp [beFC], beR _ _ _ _ _, beT1_holds h1 h2 h5⟩
end Go.Proofs.Ytbabgjpjfjlniaa
