/- Contracts of CheckSensor and Show, the program's and the reference's. -/
import Derived.Test.YtbabgjpjfjlniaaSe3
namespace Go.Proofs.Ytbabgjpjfjlniaa
open Go Go.SX Go.RowKit SE
set_option linter.unusedVariables false
set_option linter.unusedSimpArgs false
set_option maxRecDepth 100000
theorem fl44_ok : (flFC 44).OK Try.prog sfn := flFC_ok 44 (by kernel_rfl) (by kernel_rfl)
theorem fl33_ok : (flFC 33).OK Try.prog sfn := flFC_ok 33 (by kernel_rfl) (by kernel_rfl)
theorem chk_cases (N S L M : Int) : (okS N S L M ∧ chk N S L M = 0) ∨ (¬ okS N S L M ∧ chk N S L M = 2) := by
  unfold chk
  by_cases h : okS N S L M
  · left; exact ⟨h, if_pos h⟩
  · right; exact ⟨h, if_neg h⟩
def chkT1 : VT := (.ite (.cmp .leq (.lit 0) (.var 0)) (.ite (.neg (.cmp .leq (.var 0) (.lit 1073741824))) (.leaf (.int .i64 (.lit 2))) (.ite (.cmp .leq (.lit 1) (.var 1)) (.ite (.neg (.cmp .leq (.var 1) (.lit 1073741824))) (.leaf (.int .i64 (.lit 2))) (.ite (.cmp .leq (.lit (-1073741824)) (.var 2)) (.ite (.neg (.cmp .leq (.var 2) (.lit 1073741824))) (.leaf (.int .i64 (.lit 2))) (.ite (.cmp .leq (.var 2) (.var 3)) (.ite (.neg (.cmp .leq (.var 3) (.lit 1073741824))) (.leaf (.int .i64 (.lit 2))) (.leaf (.int .i64 (.lit 0)))) (.leaf (.int .i64 (.lit 2))))) (.leaf (.int .i64 (.lit 2))))) (.leaf (.int .i64 (.lit 2))))) (.leaf (.int .i64 (.lit 2))))
def chkT2 : VT := (.ite (.cmp .geq (.var 0) (.lit 0)) (.ite (.neg (.cmp .leq (.var 0) (.lit 1073741824))) (.leaf (.int .i64 (.lit 2))) (.ite (.cmp .geq (.var 1) (.lit 1)) (.ite (.neg (.cmp .leq (.var 1) (.lit 1073741824))) (.leaf (.int .i64 (.lit 2))) (.ite (.cmp .geq (.var 2) (.lit (-1073741824))) (.ite (.neg (.cmp .leq (.var 2) (.lit 1073741824))) (.leaf (.int .i64 (.lit 2))) (.ite (.cmp .geq (.var 3) (.var 2)) (.ite (.neg (.cmp .leq (.var 3) (.lit 1073741824))) (.leaf (.int .i64 (.lit 2))) (.leaf (.int .i64 (.lit 0)))) (.leaf (.int .i64 (.lit 2))))) (.leaf (.int .i64 (.lit 2))))) (.leaf (.int .i64 (.lit 2))))) (.leaf (.int .i64 (.lit 2))))
theorem chk1_ok : (chkFC 11).OK Try.prog sfn := by
  refine FC.ok_eqv (X := noPar) (d := 5) (n := 1000) (t := chkT1) mixed (noPar_ok sfn) rfl (by kernel_rfl) (by kernel_rfl) fun r hw hpre => ?_
  obtain ⟨xs, r1, rfl, hw1, _, e⟩ := hw
  obtain ⟨a, b, c, d, rfl, h1, h2, h3, h4⟩ := wf4 hw1
  rw [show r1 = [] from e]
  refine ⟨by simp [chkFC], by simp [chkFC], ?_⟩
  simp only [chkT1, chkFC, chkE, VT.holds, SV.eqv, den_lit, den_var, den_ite, den_cmp, den_cmpB, den_tst, den_tstF, den_negT, den_negF, den_andT, den_andF, lssT, leqT, gtrT, geqT, eqlT, neqT, lssF, leqF, gtrF, geqF, eqlF, neqF, den_app, den_nilL, den_consL, den_add, den_sub, den_mul, den_tdiv, den_tmod, den_mx, den_mn, env_v, env_f, List.flatten_cons, List.flatten_nil, List.append_nil, List.cons_append, List.nil_append, List.getD_cons_zero, List.getD_cons_succ, List.getD_nil, sfn2]
  repeat' (first | apply And.intro | intro _)
  all_goals first | trivial | (rcases chk_cases a b c d with ⟨hk, ek⟩ | ⟨hk, ek⟩ <;> (rw [ek]; try (unfold okS at hk; omega)))
theorem chk2_ok : (chkFC 12).OK Try.prog sfn := by
  refine FC.ok_eqv (X := noPar) (d := 5) (n := 1000) (t := chkT2) mixed (noPar_ok sfn) rfl (by kernel_rfl) (by kernel_rfl) fun r hw hpre => ?_
  obtain ⟨xs, r1, rfl, hw1, _, e⟩ := hw
  obtain ⟨a, b, c, d, rfl, h1, h2, h3, h4⟩ := wf4 hw1
  rw [show r1 = [] from e]
  refine ⟨by simp [chkFC], by simp [chkFC], ?_⟩
  simp only [chkT2, chkFC, chkE, VT.holds, SV.eqv, den_lit, den_var, den_ite, den_cmp, den_cmpB, den_tst, den_tstF, den_negT, den_negF, den_andT, den_andF, lssT, leqT, gtrT, geqT, eqlT, neqT, lssF, leqF, gtrF, geqF, eqlF, neqF, den_app, den_nilL, den_consL, den_add, den_sub, den_mul, den_tdiv, den_tmod, den_mx, den_mn, env_v, env_f, List.flatten_cons, List.flatten_nil, List.append_nil, List.cons_append, List.nil_append, List.getD_cons_zero, List.getD_cons_succ, List.getD_nil, sfn2]
  repeat' (first | apply And.intro | intro _)
  all_goals first | trivial | (rcases chk_cases a b c d with ⟨hk, ek⟩ | ⟨hk, ek⟩ <;> (rw [ek]; try (unfold okS at hk; omega)))
def par0 : Par := (chkFC 11).par ((chkFC 12).par ((flFC 44).par ((flFC 33).par joinPar)))
theorem par0_ok : ParOK Try.prog sfn par0 := FC.parOK chk1_ok rfl (FC.parOK chk2_ok rfl (FC.parOK fl44_ok rfl (FC.parOK fl33_ok rfl (joinPar_ok sfn))))
def sixE : List E := [.var 0, .var 1, .var 2, .var 3, .var 4, .var 5]
def shFC (f : Nat) : FC := ⟨f, six, .tuple [.int .i64 (.app 3 sixE), .int .i64 (.app 4 sixE)], [], [], [(.app 3 sixE, -1073741824, 1073741824)]⟩
def shT1 : VT := (.ite (.tst (.ite (.cmp .neq (.app 2 [(.var 0), (.var 1), (.var 2), (.var 3)]) (.lit 0)) (.lit 1) (.ite (.ite (.cmp .leq (.lit (-1099511627776)) (.var 4)) (.cmp .leq (.var 4) (.lit 1099511627776)) (.lit 0)) (.lit 0) (.lit 1)))) (.leaf (.tuple [(.int .i64 (.lit 0)), (.int .i64 (.lit 2))])) (.ite (.neg (.and (.cmp .leq (.bin .sub .i64 (.lit 0) (.var 0)) (.var 5)) (.cmp .leq (.var 5) (.var 0)))) (.leaf (.tuple [(.int .i64 (.lit 0)), (.int .i64 (.lit 3))])) (.need (.cmp .geq (.bin .add .i64 (.bin .add .i64 (.var 4) (.var 5)) (.op .tdiv (.var 1) (.lit 2))) (.lit (-17592186044416))) (.need (.cmp .leq (.bin .add .i64 (.bin .add .i64 (.var 4) (.var 5)) (.op .tdiv (.var 1) (.lit 2))) (.lit 17592186044416)) (.need (.cmp .geq (.var 1) (.lit 1)) (.need (.cmp .leq (.var 1) (.lit 4294967296)) (.leaf (.tuple [(.int .i64 (.op .mn (.op .mx (.op .mul (.var 1) (.app 1 [(.bin .add .i64 (.bin .add .i64 (.var 4) (.var 5)) (.op .tdiv (.var 1) (.lit 2))), (.var 1)])) (.var 2)) (.var 3))), (.int .i64 (.lit 0))]))))))))
def shT2 : VT := (.ite (.tst (.ite (.cmp .neq (.app 2 [(.var 0), (.var 1), (.var 2), (.var 3)]) (.lit 0)) (.lit 1) (.ite (.ite (.cmp .geq (.var 4) (.lit (-1099511627776))) (.cmp .leq (.var 4) (.lit 1099511627776)) (.lit 0)) (.lit 0) (.lit 1)))) (.leaf (.tuple [(.int .i64 (.lit 0)), (.int .i64 (.lit 2))])) (.ite (.neg (.and (.cmp .geq (.var 5) (.bin .sub .i64 (.lit 0) (.var 0))) (.cmp .leq (.var 5) (.var 0)))) (.leaf (.tuple [(.int .i64 (.lit 0)), (.int .i64 (.lit 3))])) (.need (.cmp .geq (.bin .add .i64 (.bin .add .i64 (.var 4) (.var 5)) (.op .tdiv (.var 1) (.lit 2))) (.lit (-17592186044416))) (.need (.cmp .leq (.bin .add .i64 (.bin .add .i64 (.var 4) (.var 5)) (.op .tdiv (.var 1) (.lit 2))) (.lit 17592186044416)) (.need (.cmp .geq (.var 1) (.lit 1)) (.need (.cmp .leq (.var 1) (.lit 4294967296)) (.leaf (.tuple [(.int .i64 (.op .mx (.var 2) (.op .mn (.op .mul (.var 1) (.app 1 [(.bin .add .i64 (.bin .add .i64 (.var 4) (.var 5)) (.op .tdiv (.var 1) (.lit 2))), (.var 1)])) (.var 3)))), (.int .i64 (.lit 0))]))))))))
theorem half {S : Int} (h : 1 ≤ S) : S.tdiv 2 = S / 2 := Int.tdiv_eq_ediv_of_nonneg (by omega)
theorem shT1_holds {N S L M x z : Int} (h1 : -9223372036854775808 ≤ N ∧ N ≤ 9223372036854775807) (h2 : -9223372036854775808 ≤ S ∧ S ≤ 9223372036854775807) (h5 : -9223372036854775808 ≤ x ∧ x ≤ 9223372036854775807) (h6 : -9223372036854775808 ≤ z ∧ z ≤ 9223372036854775807) :
    shT1.holds (envOf (List.flatten [[N, S, L, M], [x], [z]]) sfn) fun u => u.eqv (envOf (List.flatten [[N, S, L, M], [x], [z]]) sfn) (shFC 7).v := by
  simp only [shT1, shFC, sixE, VT.holds, SV.eqv, SV.eqvL, den_bin, binI, den_lit, den_var, den_ite, den_cmp, den_cmpB, den_tst, den_tstF, den_negT, den_negF, den_andT, den_andF, lssT, leqT, gtrT, geqT, eqlT, neqT, lssF, leqF, gtrF, geqF, eqlF, neqF, den_app, den_nilL, den_consL, den_add, den_sub, den_mul, den_tdiv, den_tmod, den_mx, den_mn, env_v, env_f, List.flatten_cons, List.flatten_nil, List.append_nil, List.cons_append, List.nil_append, List.getD_cons_zero, List.getD_cons_succ, List.getD_nil, sfn1, sfn2, sfn3, sfn4]
  rcases chk_cases N S L M with ⟨hok, hc⟩ | ⟨hok, hc⟩
  · rw [hc]
    simp only [shV, shE, hok]
    have hd := half hok.2.1.1
    unfold okS at hok
    rw [wrap_i64 (n := 0 - N) (by omega) (by omega)]
    have hQ : isQ x ↔ (-1099511627776 ≤ x ∧ x ≤ 1099511627776) := Iff.rfl
    have hy : IntKind.i64.wrap (IntKind.i64.wrap (x + z) + S.tdiv 2) = IntKind.i64.wrap (IntKind.i64.wrap (x + z) + S / 2) := by rw [hd]
    refine ⟨fun hq => ?_, fun hq => ?_⟩
    · have hx : ¬ isQ x := by grind
      simp only [hx, false_and, and_false, if_false, not_false_eq_true, or_true, if_true, and_self]
    · have hx : isQ x := by grind
      rw [hQ] at hx
      refine ⟨fun hz => ?_, fun hz => ?_⟩
      · have hn : ¬ (-N ≤ z ∧ z ≤ N) := by omega
        simp only [hn, and_false, if_false, hQ, hx, not_true, or_self, and_self]
      · have hn : -N ≤ z ∧ z ≤ N := by omega
        rw [wrap_i64 (n := x + z) (by omega) (by omega), hd, wrap_i64 (n := x + z + S / 2) (by omega) (by omega)]
        simp only [hn, hQ, hx, not_true, or_self, and_self, if_true, if_false]
        refine ⟨by omega, by omega, by omega, by omega, ⟨trivial, ?_⟩, trivial⟩
        unfold st; omega
  · rw [hc]
    simp only [shV, shE, hok, false_and, if_false, not_false_eq_true, true_or, if_true]
    refine ⟨fun hq => by simp, fun hq => ?_⟩
    exfalso; revert hq; simp
theorem shT2_holds {N S L M x z : Int} (h1 : -9223372036854775808 ≤ N ∧ N ≤ 9223372036854775807) (h2 : -9223372036854775808 ≤ S ∧ S ≤ 9223372036854775807) (h5 : -9223372036854775808 ≤ x ∧ x ≤ 9223372036854775807) (h6 : -9223372036854775808 ≤ z ∧ z ≤ 9223372036854775807) :
    shT2.holds (envOf (List.flatten [[N, S, L, M], [x], [z]]) sfn) fun u => u.eqv (envOf (List.flatten [[N, S, L, M], [x], [z]]) sfn) (shFC 8).v := by
  simp only [shT2, shFC, sixE, VT.holds, SV.eqv, SV.eqvL, den_bin, binI, den_lit, den_var, den_ite, den_cmp, den_cmpB, den_tst, den_tstF, den_negT, den_negF, den_andT, den_andF, lssT, leqT, gtrT, geqT, eqlT, neqT, lssF, leqF, gtrF, geqF, eqlF, neqF, den_app, den_nilL, den_consL, den_add, den_sub, den_mul, den_tdiv, den_tmod, den_mx, den_mn, env_v, env_f, List.flatten_cons, List.flatten_nil, List.append_nil, List.cons_append, List.nil_append, List.getD_cons_zero, List.getD_cons_succ, List.getD_nil, sfn1, sfn2, sfn3, sfn4]
  rcases chk_cases N S L M with ⟨hok, hc⟩ | ⟨hok, hc⟩
  · rw [hc]
    simp only [shV, shE, hok]
    have hd := half hok.2.1.1
    unfold okS at hok
    rw [wrap_i64 (n := 0 - N) (by omega) (by omega)]
    have hQ : isQ x ↔ (-1099511627776 ≤ x ∧ x ≤ 1099511627776) := Iff.rfl
    have hy : IntKind.i64.wrap (IntKind.i64.wrap (x + z) + S.tdiv 2) = IntKind.i64.wrap (IntKind.i64.wrap (x + z) + S / 2) := by rw [hd]
    refine ⟨fun hq => ?_, fun hq => ?_⟩
    · have hx : ¬ isQ x := by grind
      simp only [hx, false_and, and_false, if_false, not_false_eq_true, or_true, if_true, and_self]
    · have hx : isQ x := by grind
      rw [hQ] at hx
      refine ⟨fun hz => ?_, fun hz => ?_⟩
      · have hn : ¬ (-N ≤ z ∧ z ≤ N) := by omega
        simp only [hn, and_false, if_false, hQ, hx, not_true, or_self, and_self]
      · have hn : -N ≤ z ∧ z ≤ N := by omega
        rw [wrap_i64 (n := x + z) (by omega) (by omega), hd, wrap_i64 (n := x + z + S / 2) (by omega) (by omega)]
        simp only [hn, hQ, hx, not_true, or_self, and_self, if_true, if_false]
        refine ⟨by omega, by omega, by omega, by omega, ⟨trivial, ?_⟩, trivial⟩
        unfold st; omega
  · rw [hc]
    simp only [shV, shE, hok, false_and, if_false, not_false_eq_true, true_or, if_true]
    refine ⟨fun hq => by simp, fun hq => ?_⟩
    exfalso; revert hq; simp
theorem wf6 {r : List (List Int)} (h : wfAll six r) : ∃ a b c d x z, r = [[a, b, c, d], [x], [z]] ∧ (-9223372036854775808 ≤ a ∧ a ≤ 9223372036854775807) ∧ (-9223372036854775808 ≤ b ∧ b ≤ 9223372036854775807) ∧ (-9223372036854775808 ≤ x ∧ x ≤ 9223372036854775807) ∧ (-9223372036854775808 ≤ z ∧ z ≤ 9223372036854775807) := by
  obtain ⟨xs, r1, rfl, hw, _, ys, r2, rfl, hw2, _, zs, r3, rfl, hw3, _, e⟩ := h
  obtain ⟨a, b, c, d, rfl, h1, h2, h3, h4⟩ := wf4 hw
  obtain ⟨x, rfl, h5⟩ := wf1 hw2
  obtain ⟨z, rfl, h6⟩ := wf1 hw3
  rw [show r3 = [] from e]
  exact ⟨a, b, c, d, x, z, rfl, h1, h2, h5, h6⟩
theorem shV_bd (N S L M x z : Int) : -1073741824 ≤ shV N S L M x z ∧ shV N S L M x z ≤ 1073741824 := by
  unfold shV
  split
  · rename_i h
    have := h.1
    unfold okS at this
    omega
  · omega
theorem shR {f : Nat} (a b c d x z : Int) : ∀ p, p ∈ (shFC f).rngs → p.2.1 ≤ p.1.den (envOf (List.flatten [[a, b, c, d], [x], [z]]) sfn) ∧ p.1.den (envOf (List.flatten [[a, b, c, d], [x], [z]]) sfn) ≤ p.2.2 := by
  intro p hm
  simp only [shFC, List.mem_singleton] at hm
  subst hm
  simp only [sixE, den_app, den_nilL, den_consL, den_var, env_v, env_f, List.flatten_cons, List.flatten_nil, List.append_nil, List.cons_append, List.nil_append, List.getD_cons_zero, List.getD_cons_succ, List.getD_nil, sfn3]
  exact shV_bd _ _ _ _ _ _
theorem sh1_ok : (shFC 7).OK Try.prog sfn := by
  refine FC.ok_eqv (X := par0) (d := 5) (n := 1000) (t := shT1) mixed par0_ok rfl (by kernel_rfl) (by kernel_rfl) fun r hw hpre => ?_
  obtain ⟨a, b, c, d, x, z, rfl, h1, h2, h5, h6⟩ := wf6 hw
  exact ⟨by simp [shFC], shR _ _ _ _ _ _, shT1_holds h1 h2 h5 h6⟩
theorem sh2_ok : (shFC 8).OK Try.prog sfn := by
  refine FC.ok_eqv (X := par0) (d := 5) (n := 1000) (t := shT2) mixed par0_ok rfl (by kernel_rfl) (by kernel_rfl) fun r hw hpre => ?_
  obtain ⟨a, b, c, d, x, z, rfl, h1, h2, h5, h6⟩ := wf6 hw
  exact ⟨by simp [shFC], shR _ _ _ _ _ _, shT2_holds h1 h2 h5 h6⟩
end Go.Proofs.Ytbabgjpjfjlniaa
