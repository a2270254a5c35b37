/- The contract of Regulate, the program's and the reference's. -/
import Derived.Test.YtmcnbgngojgfcaaDd
namespace Go.Proofs.Ytmcnbgngojgfcaa
open Go Go.SX Go.RowKit DR
set_option linter.unusedVariables false
set_option linter.unusedSimpArgs false
set_option maxRecDepth 100000
def reS : List (Bool × List (Option IntKind)) := [(true, [some .i64, some .i64]), sI, sI, (true, [some .i64, some .i64])]
def reFC (f : Nat) : FC := ⟨f, reS, .tuple [.int .i64 (.app 30 [.var 0, .var 1, .var 2, .var 3, .var 4, .var 5]), .int .i64 (.app 31 [.var 0, .var 1, .var 2, .var 3, .var 4, .var 5]), .int .i64 (.app 32 [.var 0, .var 1, .var 2, .var 3, .var 4, .var 5])], [], [], []⟩
def re24T : VT := (.ite (.cmp .leq (.lit 0) (.var 0)) (.ite (.cmp .leq (.var 0) (.lit 16777216)) (.ite (.cmp .leq (.lit 0) (.var 1)) (.ite (.neg (.cmp .leq (.var 1) (.lit 16777216))) (.leaf (.tuple [(.int .i64 (.lit 0)), (.int .i64 (.lit 0)), (.int .i64 (.lit 2))])) (.ite (.cmp .leq (.lit (-1099511627776)) (.var 4)) (.ite (.neg (.cmp .leq (.var 4) (.lit 1099511627776))) (.leaf (.tuple [(.int .i64 (.lit 0)), (.int .i64 (.lit 0)), (.int .i64 (.lit 2))])) (.ite (.cmp .leq (.lit (-1099511627776)) (.var 5)) (.ite (.neg (.cmp .leq (.var 5) (.lit 1099511627776))) (.leaf (.tuple [(.int .i64 (.lit 0)), (.int .i64 (.lit 0)), (.int .i64 (.lit 2))])) (.ite (.cmp .gtr (.var 4) (.var 5)) (.leaf (.tuple [(.int .i64 (.lit 0)), (.int .i64 (.lit 0)), (.int .i64 (.lit 2))])) (.ite (.cmp .leq (.lit (-1073741824)) (.var 2)) (.ite (.neg (.cmp .leq (.var 2) (.lit 1073741824))) (.leaf (.tuple [(.int .i64 (.lit 0)), (.int .i64 (.lit 0)), (.int .i64 (.lit 3))])) (.ite (.cmp .leq (.lit (-2097152)) (.var 3)) (.ite (.neg (.cmp .leq (.var 3) (.lit 2097152))) (.leaf (.tuple [(.int .i64 (.lit 0)), (.int .i64 (.lit 0)), (.int .i64 (.lit 3))])) (.ite (.cmp .eql (.op .add (.app 1 [(.op .mul (.var 0) (.var 3)), (.lit 65536)]) (.var 2)) (.app 3 [(.op .add (.app 1 [(.op .mul (.var 0) (.var 3)), (.lit 65536)]) (.var 2)), (.var 4), (.var 5)])) (.leaf (.tuple [(.int .i64 (.app 3 [(.op .add (.app 1 [(.op .mul (.var 0) (.var 3)), (.lit 65536)]) (.var 2)), (.var 4), (.var 5)])), (.int .i64 (.app 3 [(.op .add (.var 2) (.app 1 [(.op .mul (.var 1) (.var 3)), (.lit 65536)])), (.lit (-1073741824)), (.lit 1073741824)])), (.int .i64 (.lit 0))])) (.ite (.cmp .gtr (.op .add (.app 1 [(.op .mul (.var 0) (.var 3)), (.lit 65536)]) (.var 2)) (.app 3 [(.op .add (.app 1 [(.op .mul (.var 0) (.var 3)), (.lit 65536)]) (.var 2)), (.var 4), (.var 5)])) (.ite (.cmp .lss (.var 3) (.lit 0)) (.leaf (.tuple [(.int .i64 (.app 3 [(.op .add (.app 1 [(.op .mul (.var 0) (.var 3)), (.lit 65536)]) (.var 2)), (.var 4), (.var 5)])), (.int .i64 (.app 3 [(.op .add (.var 2) (.app 1 [(.op .mul (.var 1) (.var 3)), (.lit 65536)])), (.lit (-1073741824)), (.lit 1073741824)])), (.int .i64 (.lit 0))])) (.leaf (.tuple [(.int .i64 (.app 3 [(.op .add (.app 1 [(.op .mul (.var 0) (.var 3)), (.lit 65536)]) (.var 2)), (.var 4), (.var 5)])), (.int .i64 (.var 2)), (.int .i64 (.lit 0))]))) (.ite (.cmp .lss (.op .add (.app 1 [(.op .mul (.var 0) (.var 3)), (.lit 65536)]) (.var 2)) (.app 3 [(.op .add (.app 1 [(.op .mul (.var 0) (.var 3)), (.lit 65536)]) (.var 2)), (.var 4), (.var 5)])) (.ite (.cmp .gtr (.var 3) (.lit 0)) (.leaf (.tuple [(.int .i64 (.app 3 [(.op .add (.app 1 [(.op .mul (.var 0) (.var 3)), (.lit 65536)]) (.var 2)), (.var 4), (.var 5)])), (.int .i64 (.app 3 [(.op .add (.var 2) (.app 1 [(.op .mul (.var 1) (.var 3)), (.lit 65536)])), (.lit (-1073741824)), (.lit 1073741824)])), (.int .i64 (.lit 0))])) (.leaf (.tuple [(.int .i64 (.app 3 [(.op .add (.app 1 [(.op .mul (.var 0) (.var 3)), (.lit 65536)]) (.var 2)), (.var 4), (.var 5)])), (.int .i64 (.var 2)), (.int .i64 (.lit 0))]))) (.leaf (.tuple [(.int .i64 (.app 3 [(.op .add (.app 1 [(.op .mul (.var 0) (.var 3)), (.lit 65536)]) (.var 2)), (.var 4), (.var 5)])), (.int .i64 (.var 2)), (.int .i64 (.lit 0))])))))) (.leaf (.tuple [(.int .i64 (.lit 0)), (.int .i64 (.lit 0)), (.int .i64 (.lit 3))])))) (.leaf (.tuple [(.int .i64 (.lit 0)), (.int .i64 (.lit 0)), (.int .i64 (.lit 3))]))))) (.leaf (.tuple [(.int .i64 (.lit 0)), (.int .i64 (.lit 0)), (.int .i64 (.lit 2))])))) (.leaf (.tuple [(.int .i64 (.lit 0)), (.int .i64 (.lit 0)), (.int .i64 (.lit 2))])))) (.leaf (.tuple [(.int .i64 (.lit 0)), (.int .i64 (.lit 0)), (.int .i64 (.lit 2))]))) (.leaf (.tuple [(.int .i64 (.lit 0)), (.int .i64 (.lit 0)), (.int .i64 (.lit 2))]))) (.leaf (.tuple [(.int .i64 (.lit 0)), (.int .i64 (.lit 0)), (.int .i64 (.lit 2))])))
theorem re24_ok {fn : Nat → List Int → Int} (h : GoodF fn) : (reFC 24).OK Try.prog fn := by
  refine FC.ok_num (X := Xb) (d := 0) (n := 100000) (t := re24T) mixD (Xb_ok h) rfl (by kernel_rfl) (by kernel_rfl) fun r hw hpre => ?_
  obtain ⟨xs0, r0, rfl, w0, _, hw0⟩ := hw
  obtain ⟨xs1, r1, rfl, w1, _, hw1⟩ := hw0
  obtain ⟨xs2, r2, rfl, w2, _, hw2⟩ := hw1
  obtain ⟨xs3, r3, rfl, w3, _, hw3⟩ := hw2
  obtain rfl : r3 = [] := hw3
  obtain ⟨p, j, rfl, hp, hj⟩ := wfI2 w0
  obtain ⟨s, rfl, hs⟩ := wfI1 w1
  obtain ⟨x, rfl, hx⟩ := wfI1 w2
  obtain ⟨l, m, rfl, hl, hm⟩ := wfI2 w3
  refine ⟨by simp [reFC], by simp [reFC], ?_⟩
  simp only [re24T, reFC, VT.holds, SV.eqv, SV.eqvL, den_lit, den_var, den_ite, den_cmp, den_cmpB, den_tst, den_tstF, den_negT, den_negF, den_andT, den_andF, lssT, leqT, gtrT, geqT, eqlT, neqT, lssF, leqF, gtrF, geqF, eqlF, neqF, den_app, den_nilL, den_consL, den_add, den_sub, den_mul, den_tdiv, den_tmod, den_mx, den_mn, den_blit, den_bin, binI, env_v, env_f, List.flatten_cons, List.flatten_nil, List.append_nil, List.cons_append, List.nil_append, List.getD_cons_zero, List.getD_cons_succ, List.getD_nil, q1 h, q2 h, q3 h, q30 h, q31 h, q32 h, true_and, and_true]
  clear w0 w1 w2 w3 hpre hp hj hs hx hl hm
  by_cases hG : okG p j l m
  case neg =>
    simp only [regV, regS, regE, hG, false_and, if_false]
    simp only [okG, isQ] at hG
    repeat' (first | apply And.intro | intro _)
    all_goals first | trivial | omega
  by_cases hX : okX s x
  case neg =>
    simp only [regV, regS, regE, hG, hX, and_false, if_false, if_true]
    simp only [okX, isB] at hX
    simp only [okG, isQ] at hG
    repeat' (first | apply And.intro | intro _)
    all_goals first | trivial | omega
  simp only [regV, regS, regE, hG, hX, and_self, if_true]
  simp only [okX, isB] at hX
  simp only [okG, isQ] at hG
  generalize p * x / 65536 + s = R at *
  generalize j * x / 65536 = J at *
  unfold br growsR
  repeat' (first | apply And.intro | intro _)
  all_goals first | trivial | rfl | omega | (split <;> omega)
def re25T : VT := (.ite (.cmp .geq (.var 0) (.lit 0)) (.ite (.cmp .leq (.var 0) (.lit 16777216)) (.ite (.cmp .geq (.var 1) (.lit 0)) (.ite (.neg (.cmp .leq (.var 1) (.lit 16777216))) (.leaf (.tuple [(.int .i64 (.lit 0)), (.int .i64 (.lit 0)), (.int .i64 (.lit 2))])) (.ite (.cmp .geq (.var 4) (.lit (-1099511627776))) (.ite (.neg (.cmp .leq (.var 4) (.lit 1099511627776))) (.leaf (.tuple [(.int .i64 (.lit 0)), (.int .i64 (.lit 0)), (.int .i64 (.lit 2))])) (.ite (.cmp .geq (.var 5) (.lit (-1099511627776))) (.ite (.neg (.cmp .leq (.var 5) (.lit 1099511627776))) (.leaf (.tuple [(.int .i64 (.lit 0)), (.int .i64 (.lit 0)), (.int .i64 (.lit 2))])) (.ite (.cmp .gtr (.var 4) (.var 5)) (.leaf (.tuple [(.int .i64 (.lit 0)), (.int .i64 (.lit 0)), (.int .i64 (.lit 2))])) (.ite (.cmp .geq (.var 2) (.lit (-1073741824))) (.ite (.neg (.cmp .leq (.var 2) (.lit 1073741824))) (.leaf (.tuple [(.int .i64 (.lit 0)), (.int .i64 (.lit 0)), (.int .i64 (.lit 3))])) (.ite (.cmp .geq (.var 3) (.lit (-2097152))) (.ite (.neg (.cmp .leq (.var 3) (.lit 2097152))) (.leaf (.tuple [(.int .i64 (.lit 0)), (.int .i64 (.lit 0)), (.int .i64 (.lit 3))])) (.ite (.cmp .geq (.op .add (.app 1 [(.op .mul (.var 0) (.var 3)), (.lit 65536)]) (.var 2)) (.var 4)) (.ite (.cmp .leq (.op .add (.app 1 [(.op .mul (.var 0) (.var 3)), (.lit 65536)]) (.var 2)) (.var 5)) (.leaf (.tuple [(.int .i64 (.app 3 [(.op .add (.app 1 [(.op .mul (.var 0) (.var 3)), (.lit 65536)]) (.var 2)), (.var 4), (.var 5)])), (.int .i64 (.app 3 [(.op .add (.var 2) (.app 1 [(.op .mul (.var 1) (.var 3)), (.lit 65536)])), (.lit (-1073741824)), (.lit 1073741824)])), (.int .i64 (.lit 0))])) (.ite (.cmp .lss (.var 3) (.lit 0)) (.leaf (.tuple [(.int .i64 (.app 3 [(.op .add (.app 1 [(.op .mul (.var 0) (.var 3)), (.lit 65536)]) (.var 2)), (.var 4), (.var 5)])), (.int .i64 (.app 3 [(.op .add (.var 2) (.app 1 [(.op .mul (.var 1) (.var 3)), (.lit 65536)])), (.lit (-1073741824)), (.lit 1073741824)])), (.int .i64 (.lit 0))])) (.leaf (.tuple [(.int .i64 (.app 3 [(.op .add (.app 1 [(.op .mul (.var 0) (.var 3)), (.lit 65536)]) (.var 2)), (.var 4), (.var 5)])), (.int .i64 (.app 3 [(.var 2), (.lit (-1073741824)), (.lit 1073741824)])), (.int .i64 (.lit 0))])))) (.ite (.cmp .gtr (.op .add (.app 1 [(.op .mul (.var 0) (.var 3)), (.lit 65536)]) (.var 2)) (.var 5)) (.ite (.cmp .lss (.var 3) (.lit 0)) (.leaf (.tuple [(.int .i64 (.app 3 [(.op .add (.app 1 [(.op .mul (.var 0) (.var 3)), (.lit 65536)]) (.var 2)), (.var 4), (.var 5)])), (.int .i64 (.app 3 [(.op .add (.var 2) (.app 1 [(.op .mul (.var 1) (.var 3)), (.lit 65536)])), (.lit (-1073741824)), (.lit 1073741824)])), (.int .i64 (.lit 0))])) (.ite (.cmp .gtr (.var 3) (.lit 0)) (.leaf (.tuple [(.int .i64 (.app 3 [(.op .add (.app 1 [(.op .mul (.var 0) (.var 3)), (.lit 65536)]) (.var 2)), (.var 4), (.var 5)])), (.int .i64 (.app 3 [(.op .add (.var 2) (.app 1 [(.op .mul (.var 1) (.var 3)), (.lit 65536)])), (.lit (-1073741824)), (.lit 1073741824)])), (.int .i64 (.lit 0))])) (.leaf (.tuple [(.int .i64 (.app 3 [(.op .add (.app 1 [(.op .mul (.var 0) (.var 3)), (.lit 65536)]) (.var 2)), (.var 4), (.var 5)])), (.int .i64 (.app 3 [(.var 2), (.lit (-1073741824)), (.lit 1073741824)])), (.int .i64 (.lit 0))])))) (.ite (.cmp .gtr (.var 3) (.lit 0)) (.leaf (.tuple [(.int .i64 (.app 3 [(.op .add (.app 1 [(.op .mul (.var 0) (.var 3)), (.lit 65536)]) (.var 2)), (.var 4), (.var 5)])), (.int .i64 (.app 3 [(.op .add (.var 2) (.app 1 [(.op .mul (.var 1) (.var 3)), (.lit 65536)])), (.lit (-1073741824)), (.lit 1073741824)])), (.int .i64 (.lit 0))])) (.leaf (.tuple [(.int .i64 (.app 3 [(.op .add (.app 1 [(.op .mul (.var 0) (.var 3)), (.lit 65536)]) (.var 2)), (.var 4), (.var 5)])), (.int .i64 (.app 3 [(.var 2), (.lit (-1073741824)), (.lit 1073741824)])), (.int .i64 (.lit 0))])))))) (.leaf (.tuple [(.int .i64 (.lit 0)), (.int .i64 (.lit 0)), (.int .i64 (.lit 3))])))) (.leaf (.tuple [(.int .i64 (.lit 0)), (.int .i64 (.lit 0)), (.int .i64 (.lit 3))]))))) (.leaf (.tuple [(.int .i64 (.lit 0)), (.int .i64 (.lit 0)), (.int .i64 (.lit 2))])))) (.leaf (.tuple [(.int .i64 (.lit 0)), (.int .i64 (.lit 0)), (.int .i64 (.lit 2))])))) (.leaf (.tuple [(.int .i64 (.lit 0)), (.int .i64 (.lit 0)), (.int .i64 (.lit 2))]))) (.leaf (.tuple [(.int .i64 (.lit 0)), (.int .i64 (.lit 0)), (.int .i64 (.lit 2))]))) (.leaf (.tuple [(.int .i64 (.lit 0)), (.int .i64 (.lit 0)), (.int .i64 (.lit 2))])))
theorem re25_ok {fn : Nat → List Int → Int} (h : GoodF fn) : (reFC 25).OK Try.prog fn := by
  refine FC.ok_num (X := Xb) (d := 0) (n := 100000) (t := re25T) mixD (Xb_ok h) rfl (by kernel_rfl) (by kernel_rfl) fun r hw hpre => ?_
  obtain ⟨xs0, r0, rfl, w0, _, hw0⟩ := hw
  obtain ⟨xs1, r1, rfl, w1, _, hw1⟩ := hw0
  obtain ⟨xs2, r2, rfl, w2, _, hw2⟩ := hw1
  obtain ⟨xs3, r3, rfl, w3, _, hw3⟩ := hw2
  obtain rfl : r3 = [] := hw3
  obtain ⟨p, j, rfl, hp, hj⟩ := wfI2 w0
  obtain ⟨s, rfl, hs⟩ := wfI1 w1
  obtain ⟨x, rfl, hx⟩ := wfI1 w2
  obtain ⟨l, m, rfl, hl, hm⟩ := wfI2 w3
  refine ⟨by simp [reFC], by simp [reFC], ?_⟩
  simp only [re25T, reFC, VT.holds, SV.eqv, SV.eqvL, den_lit, den_var, den_ite, den_cmp, den_cmpB, den_tst, den_tstF, den_negT, den_negF, den_andT, den_andF, lssT, leqT, gtrT, geqT, eqlT, neqT, lssF, leqF, gtrF, geqF, eqlF, neqF, den_app, den_nilL, den_consL, den_add, den_sub, den_mul, den_tdiv, den_tmod, den_mx, den_mn, den_blit, den_bin, binI, env_v, env_f, List.flatten_cons, List.flatten_nil, List.append_nil, List.cons_append, List.nil_append, List.getD_cons_zero, List.getD_cons_succ, List.getD_nil, q1 h, q2 h, q3 h, q30 h, q31 h, q32 h, true_and, and_true]
  clear w0 w1 w2 w3 hpre hp hj hs hx hl hm
  by_cases hG : okG p j l m
  case neg =>
    simp only [regV, regS, regE, hG, false_and, if_false]
    simp only [okG, isQ] at hG
    repeat' (first | apply And.intro | intro _)
    all_goals first | trivial | omega
  by_cases hX : okX s x
  case neg =>
    simp only [regV, regS, regE, hG, hX, and_false, if_false, if_true]
    simp only [okX, isB] at hX
    simp only [okG, isQ] at hG
    repeat' (first | apply And.intro | intro _)
    all_goals first | trivial | omega
  simp only [regV, regS, regE, hG, hX, and_self, if_true]
  simp only [okX, isB] at hX
  simp only [okG, isQ] at hG
  generalize p * x / 65536 + s = R at *
  generalize j * x / 65536 = J at *
  unfold br growsR
  repeat' (first | apply And.intro | intro _)
  all_goals first | trivial | rfl | omega | (split <;> omega)
def Xr : Par := knFC.par ((reFC 24).par ((reFC 25).par Xb))
theorem Xr_ok {fn : Nat → List Int → Int} (h : GoodF fn) : ParOK Try.prog fn Xr := FC.parOK (kn_ok h) rfl (FC.parOK (re24_ok h) rfl (FC.parOK (re25_ok h) rfl (Xb_ok h)))
def Xs : Par := knFC.par Xb
theorem Xs_ok {fn : Nat → List Int → Int} (h : GoodF fn) : ParOK Try.prog fn Xs := FC.parOK (kn_ok h) rfl (Xb_ok h)
end Go.Proofs.Ytmcnbgngojgfcaa
