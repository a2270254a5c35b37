/- The contract of the reference's Behind: its loops are behind it. -/
import Derived.Test.YtbabgjpjfjlniaaSe6
namespace Go.Proofs.Ytbabgjpjfjlniaa
open Go Go.SX Go.RowKit SE
set_option linter.unusedVariables false
set_option linter.unusedSimpArgs false
set_option maxRecDepth 100000
def beT2 : VT := (.ite (.cmp .neq (.app 2 [(.var 0), (.var 1), (.var 2), (.var 3)]) (.lit 0)) (.leaf (.tuple [(.agg [(.int .i64 (.lit 0)), (.int .i64 (.lit 0))]), (.int .i64 (.lit 2))])) (.need (.cmp .geq (.var 0) (.lit 0)) (.need (.cmp .leq (.var 0) (.lit 1073741824)) (.need (.cmp .geq (.var 1) (.lit 1)) (.need (.cmp .leq (.var 1) (.lit 1073741824)) (.need (.cmp .geq (.var 2) (.lit (-1073741824))) (.need (.cmp .leq (.var 2) (.lit 1073741824)) (.need (.cmp .leq (.var 2) (.var 3)) (.need (.cmp .leq (.var 3) (.lit 1073741824)) (.leaf (.tuple [(.agg [(.int .i64 (.ite (.ite (.ite (.cmp .gtr (.app 11 [(.lit (-1099511627776)), (.lit 1099511627777), (.var 0), (.var 1), (.var 2), (.var 3), (.var 4)]) (.op .sub (.app 13 [(.app 11 [(.lit (-1099511627776)), (.lit 1099511627777), (.var 0), (.var 1), (.var 2), (.var 3), (.var 4)]), (.lit 1099511627777), (.var 0), (.var 1), (.var 2), (.var 3), (.var 4)]) (.lit 1))) (.lit 1) (.ite (.ite (.ite (.ite (.ite (.cmp .lss (.var 4) (.op .mx (.var 2) (.op .mn (.op .mul (.var 1) (.app 1 [(.op .add (.op .sub (.app 11 [(.lit (-1099511627776)), (.lit 1099511627777), (.var 0), (.var 1), (.var 2), (.var 3), (.var 4)]) (.var 0)) (.op .tdiv (.var 1) (.lit 2))), (.var 1)])) (.var 3)))) (.lit 1) (.cmp .gtr (.var 4) (.op .mx (.var 2) (.op .mn (.op .mul (.var 1) (.app 1 [(.op .add (.op .add (.app 11 [(.lit (-1099511627776)), (.lit 1099511627777), (.var 0), (.var 1), (.var 2), (.var 3), (.var 4)]) (.var 0)) (.op .tdiv (.var 1) (.lit 2))), (.var 1)])) (.var 3))))) (.lit 1) (.lit 0)) (.lit 0) (.ite (.ite (.cmp .eql (.var 4) (.op .mx (.var 2) (.op .mn (.op .mul (.var 1) (.app 1 [(.op .add (.op .sub (.app 11 [(.lit (-1099511627776)), (.lit 1099511627777), (.var 0), (.var 1), (.var 2), (.var 3), (.var 4)]) (.var 0)) (.op .tdiv (.var 1) (.lit 2))), (.var 1)])) (.var 3)))) (.lit 1) (.ite (.ite (.cmp .eql (.var 4) (.op .mx (.var 2) (.op .mn (.op .mul (.var 1) (.app 1 [(.op .add (.op .add (.app 11 [(.lit (-1099511627776)), (.lit 1099511627777), (.var 0), (.var 1), (.var 2), (.var 3), (.var 4)]) (.var 0)) (.op .tdiv (.var 1) (.lit 2))), (.var 1)])) (.var 3)))) (.lit 1) (.cmp .eql (.op .tmod (.var 4) (.var 1)) (.lit 0))) (.lit 1) (.lit 0))) (.lit 1) (.lit 0))) (.lit 1) (.lit 0)) (.lit 0) (.lit 1))) (.lit 1) (.lit 0)) (.lit 0) (.app 11 [(.lit (-1099511627776)), (.lit 1099511627777), (.var 0), (.var 1), (.var 2), (.var 3), (.var 4)]))), (.int .i64 (.ite (.ite (.ite (.cmp .gtr (.app 11 [(.lit (-1099511627776)), (.lit 1099511627777), (.var 0), (.var 1), (.var 2), (.var 3), (.var 4)]) (.op .sub (.app 13 [(.app 11 [(.lit (-1099511627776)), (.lit 1099511627777), (.var 0), (.var 1), (.var 2), (.var 3), (.var 4)]), (.lit 1099511627777), (.var 0), (.var 1), (.var 2), (.var 3), (.var 4)]) (.lit 1))) (.lit 1) (.ite (.ite (.ite (.ite (.ite (.cmp .lss (.var 4) (.op .mx (.var 2) (.op .mn (.op .mul (.var 1) (.app 1 [(.op .add (.op .sub (.app 11 [(.lit (-1099511627776)), (.lit 1099511627777), (.var 0), (.var 1), (.var 2), (.var 3), (.var 4)]) (.var 0)) (.op .tdiv (.var 1) (.lit 2))), (.var 1)])) (.var 3)))) (.lit 1) (.cmp .gtr (.var 4) (.op .mx (.var 2) (.op .mn (.op .mul (.var 1) (.app 1 [(.op .add (.op .add (.app 11 [(.lit (-1099511627776)), (.lit 1099511627777), (.var 0), (.var 1), (.var 2), (.var 3), (.var 4)]) (.var 0)) (.op .tdiv (.var 1) (.lit 2))), (.var 1)])) (.var 3))))) (.lit 1) (.lit 0)) (.lit 0) (.ite (.ite (.cmp .eql (.var 4) (.op .mx (.var 2) (.op .mn (.op .mul (.var 1) (.app 1 [(.op .add (.op .sub (.app 11 [(.lit (-1099511627776)), (.lit 1099511627777), (.var 0), (.var 1), (.var 2), (.var 3), (.var 4)]) (.var 0)) (.op .tdiv (.var 1) (.lit 2))), (.var 1)])) (.var 3)))) (.lit 1) (.ite (.ite (.cmp .eql (.var 4) (.op .mx (.var 2) (.op .mn (.op .mul (.var 1) (.app 1 [(.op .add (.op .add (.app 11 [(.lit (-1099511627776)), (.lit 1099511627777), (.var 0), (.var 1), (.var 2), (.var 3), (.var 4)]) (.var 0)) (.op .tdiv (.var 1) (.lit 2))), (.var 1)])) (.var 3)))) (.lit 1) (.cmp .eql (.op .tmod (.var 4) (.var 1)) (.lit 0))) (.lit 1) (.lit 0))) (.lit 1) (.lit 0))) (.lit 1) (.lit 0)) (.lit 0) (.lit 1))) (.lit 1) (.lit 0)) (.lit 0) (.op .sub (.app 13 [(.app 11 [(.lit (-1099511627776)), (.lit 1099511627777), (.var 0), (.var 1), (.var 2), (.var 3), (.var 4)]), (.lit 1099511627777), (.var 0), (.var 1), (.var 2), (.var 3), (.var 4)]) (.lit 1))))]), (.int .i64 (.ite (.ite (.ite (.cmp .gtr (.app 11 [(.lit (-1099511627776)), (.lit 1099511627777), (.var 0), (.var 1), (.var 2), (.var 3), (.var 4)]) (.op .sub (.app 13 [(.app 11 [(.lit (-1099511627776)), (.lit 1099511627777), (.var 0), (.var 1), (.var 2), (.var 3), (.var 4)]), (.lit 1099511627777), (.var 0), (.var 1), (.var 2), (.var 3), (.var 4)]) (.lit 1))) (.lit 1) (.ite (.ite (.ite (.ite (.ite (.cmp .lss (.var 4) (.op .mx (.var 2) (.op .mn (.op .mul (.var 1) (.app 1 [(.op .add (.op .sub (.app 11 [(.lit (-1099511627776)), (.lit 1099511627777), (.var 0), (.var 1), (.var 2), (.var 3), (.var 4)]) (.var 0)) (.op .tdiv (.var 1) (.lit 2))), (.var 1)])) (.var 3)))) (.lit 1) (.cmp .gtr (.var 4) (.op .mx (.var 2) (.op .mn (.op .mul (.var 1) (.app 1 [(.op .add (.op .add (.app 11 [(.lit (-1099511627776)), (.lit 1099511627777), (.var 0), (.var 1), (.var 2), (.var 3), (.var 4)]) (.var 0)) (.op .tdiv (.var 1) (.lit 2))), (.var 1)])) (.var 3))))) (.lit 1) (.lit 0)) (.lit 0) (.ite (.ite (.cmp .eql (.var 4) (.op .mx (.var 2) (.op .mn (.op .mul (.var 1) (.app 1 [(.op .add (.op .sub (.app 11 [(.lit (-1099511627776)), (.lit 1099511627777), (.var 0), (.var 1), (.var 2), (.var 3), (.var 4)]) (.var 0)) (.op .tdiv (.var 1) (.lit 2))), (.var 1)])) (.var 3)))) (.lit 1) (.ite (.ite (.cmp .eql (.var 4) (.op .mx (.var 2) (.op .mn (.op .mul (.var 1) (.app 1 [(.op .add (.op .add (.app 11 [(.lit (-1099511627776)), (.lit 1099511627777), (.var 0), (.var 1), (.var 2), (.var 3), (.var 4)]) (.var 0)) (.op .tdiv (.var 1) (.lit 2))), (.var 1)])) (.var 3)))) (.lit 1) (.cmp .eql (.op .tmod (.var 4) (.var 1)) (.lit 0))) (.lit 1) (.lit 0))) (.lit 1) (.lit 0))) (.lit 1) (.lit 0)) (.lit 0) (.lit 1))) (.lit 1) (.lit 0)) (.lit 5) (.lit 0)))])))))))))))
theorem beT2_holds {N S L M r : Int} (h1 : -9223372036854775808 ≤ N ∧ N ≤ 9223372036854775807) (h2 : -9223372036854775808 ≤ S ∧ S ≤ 9223372036854775807) (h5 : -9223372036854775808 ≤ r ∧ r ≤ 9223372036854775807) :
    beT2.holds (envOf (List.flatten [[N, S, L, M], [r]]) sfn) fun u => u.eqv (envOf (List.flatten [[N, S, L, M], [r]]) sfn) (beFC 10).v := by
  simp only [beT2, beFC, fiveE, VT.holds, SV.eqv, SV.eqvL, den_bin, binI, den_lit, den_var, den_ite, den_cmp, den_cmpB, den_tst, den_tstF, den_negT, den_negF, den_andT, den_andF, lssT, leqT, gtrT, geqT, eqlT, neqT, lssF, leqF, gtrF, geqF, eqlF, neqF, den_app, den_nilL, den_consL, den_add, den_sub, den_mul, den_tdiv, den_tmod, den_mx, den_mn, env_v, env_f, List.flatten_cons, List.flatten_nil, List.append_nil, List.cons_append, List.nil_append, List.getD_cons_zero, List.getD_cons_succ, List.getD_nil, sfn1, sfn2, sfn5, sfn6, sfn7, sfn11, sfn13]
  rcases chk_cases N S L M with ⟨hok, hc⟩ | ⟨hok, hc⟩
  · rw [hc]
    have hd := half hok.2.1.1
    have ht := tmod0 (n := r) (d := S)
    simp only [bLo, bHi, bE, hok, true_and, if_true]
    generalize hA : max (-1099511627776) (min 1099511627777 (c1 N S L M r)) = A
    generalize hB : max A (min 1099511627777 (c2 N S L M r)) = B
    have fi := found_iff hok hA.symm hB.symm
    have fe := found_ends hok hA.symm hB.symm
    unfold found into st at fi
    have hok2 := hok
    unfold okS at hok2
    rw [hd]
    refine ⟨fun hq => absurd rfl hq, fun _ => ⟨by omega, by omega, by omega, by omega, by omega, by omega, by omega, by omega, ?_⟩⟩
    generalize max L (min (S * ((A - N + S / 2) / S)) M) = a at *
    generalize max L (min (S * ((A + N + S / 2) / S)) M) = b at *
    generalize r.tmod S = m2 at *
    generalize r % S = m at *
    clear hA hB hok2 h1 h2 h5 hd hc
    by_cases hp : poss S L M r
    · obtain ⟨e1, e2⟩ := fe hp
      have f := fi.2 hp
      simp only [hp, if_true]
      clear fi fe
      refine ⟨⟨?_, ?_, trivial⟩, ?_, trivial⟩ <;> grind
    · have f := mt fi.1 hp
      simp only [hp, if_false]
      clear fi fe
      refine ⟨⟨?_, ?_, trivial⟩, ?_, trivial⟩ <;> grind
  · rw [hc]
    simp only [bLo, bHi, bE, hok, false_and, if_false]
    refine ⟨fun _ => by simp, fun hq => ?_⟩
    exfalso; revert hq; simp
theorem be2_ok : (beFC 10).OK Try.prog sfn := by
  refine FC.ok_eqv (X := par1) (d := 5) (n := 1000) (t := beT2) mixed par1_ok rfl (by kernel_rfl) (by kernel_rfl) fun r hw hpre => ?_
  obtain ⟨a, b, c, d, x, rfl, h1, h2, h5⟩ := wf5 hw
  exact ⟨by simp [beFC], beR _ _ _ _ _, beT2_holds h1 h2 h5⟩
def par2 : Par := (shFC 7).par ((shFC 8).par ((beFC 9).par ((beFC 10).par par1)))
theorem par2_ok : ParOK Try.prog sfn par2 := FC.parOK sh1_ok rfl (FC.parOK sh2_ok rfl (FC.parOK be1_ok rfl (FC.parOK be2_ok rfl par1_ok)))
end Go.Proofs.Ytbabgjpjfjlniaa
