/- Contracts of the transforms, the program's and the reference's. -/
import Derived.Test.YtmcnbgngojgfcaaDb
namespace Go.Proofs.Ytmcnbgngojgfcaa
open Go Go.SX Go.RowKit DR
set_option linter.unusedVariables false
set_option linter.unusedSimpArgs false
set_option maxRecDepth 100000
def sinFC (f : Nat) : FC := ⟨f, [sI], .tuple [.int .i64 (.app 4 [.var 0]), .int .i64 (.app 5 [.var 0])], [], [], [(.app 4 [.var 0], -16384, 16384)]⟩
def sin9T : VT := (.ite (.cmp .leq (.lit 0) (.var 0)) (.ite (.neg (.cmp .leq (.var 0) (.lit 65535))) (.leaf (.tuple [(.int .i64 (.lit 0)), (.int .i64 (.lit 3))])) (.leaf (.tuple [(.int .i64 (.app 2 [(.var 0)])), (.int .i64 (.lit 0))]))) (.leaf (.tuple [(.int .i64 (.lit 0)), (.int .i64 (.lit 3))])))
theorem sin9_ok {fn : Nat → List Int → Int} (h : GoodF fn) : (sinFC 9).OK Try.prog fn := by
  refine FC.ok_num (X := Xb) (d := 1) (n := 100000) (t := sin9T) mixD (Xb_ok h) rfl (by kernel_rfl) (by kernel_rfl) fun r hw hpre => ?_
  obtain ⟨xs0, r0, rfl, w0, _, hw0⟩ := hw
  obtain rfl : r0 = [] := hw0
  obtain ⟨x, rfl, hx⟩ := wfI1 w0
  refine ⟨by simp [sinFC], by
    intro p hm
    simp only [sinFC, List.mem_cons, List.not_mem_nil, or_false] at hm
    rcases hm with rfl
    all_goals simp only [den_lit, den_var, den_ite, den_cmp, den_cmpB, den_tst, den_tstF, den_negT, den_negF, den_andT, den_andF, lssT, leqT, gtrT, geqT, eqlT, neqT, lssF, leqF, gtrF, geqF, eqlF, neqF, den_app, den_nilL, den_consL, den_add, den_sub, den_mul, den_tdiv, den_tmod, den_mx, den_mn, den_blit, den_bin, binI, env_v, env_f, List.flatten_cons, List.flatten_nil, List.append_nil, List.cons_append, List.nil_append, List.getD_cons_zero, List.getD_cons_succ, List.getD_nil, q1 h, q2 h, q3 h, q4 h, q5 h]
    · unfold sinV; split
      · rename_i hA; exact sineI_bd hA.1 hA.2
      · omega
  , ?_⟩
  simp only [sin9T, sinFC, VT.holds, SV.eqv, SV.eqvL, den_lit, den_var, den_ite, den_cmp, den_cmpB, den_tst, den_tstF, den_negT, den_negF, den_andT, den_andF, lssT, leqT, gtrT, geqT, eqlT, neqT, lssF, leqF, gtrF, geqF, eqlF, neqF, den_app, den_nilL, den_consL, den_add, den_sub, den_mul, den_tdiv, den_tmod, den_mx, den_mn, den_blit, den_bin, binI, env_v, env_f, List.flatten_cons, List.flatten_nil, List.append_nil, List.cons_append, List.nil_append, List.getD_cons_zero, List.getD_cons_succ, List.getD_nil, q1 h, q2 h, q3 h, q4 h, q5 h, sinV, angE, true_and, and_true]
  repeat' (first | apply And.intro | intro _)
  all_goals first | trivial | (rw [if_neg (by simp only [okT, okR, okP, okD, isB, isA, isU]; omega)]; done) | (rw [if_pos (by simp only [okT, okR, okP, okD, isB, isA, isU]; omega)]; done) | (rw [if_pos (by simp only [okT, okR, okP, okD, isB, isA, isU]; omega), if_pos (by omega)]; done) | (rw [if_pos (by simp only [okT, okR, okP, okD, isB, isA, isU]; omega), if_neg (by omega)]; done)
def sin11T : VT := (.ite (.cmp .geq (.var 0) (.lit 0)) (.ite (.neg (.cmp .leq (.var 0) (.lit 65535))) (.leaf (.tuple [(.int .i64 (.lit 0)), (.int .i64 (.lit 3))])) (.leaf (.tuple [(.int .i64 (.app 2 [(.var 0)])), (.int .i64 (.lit 0))]))) (.leaf (.tuple [(.int .i64 (.lit 0)), (.int .i64 (.lit 3))])))
theorem sin11_ok {fn : Nat → List Int → Int} (h : GoodF fn) : (sinFC 11).OK Try.prog fn := by
  refine FC.ok_num (X := Xb) (d := 1) (n := 100000) (t := sin11T) mixD (Xb_ok h) rfl (by kernel_rfl) (by kernel_rfl) fun r hw hpre => ?_
  obtain ⟨xs0, r0, rfl, w0, _, hw0⟩ := hw
  obtain rfl : r0 = [] := hw0
  obtain ⟨x, rfl, hx⟩ := wfI1 w0
  refine ⟨by simp [sinFC], by
    intro p hm
    simp only [sinFC, List.mem_cons, List.not_mem_nil, or_false] at hm
    rcases hm with rfl
    all_goals simp only [den_lit, den_var, den_ite, den_cmp, den_cmpB, den_tst, den_tstF, den_negT, den_negF, den_andT, den_andF, lssT, leqT, gtrT, geqT, eqlT, neqT, lssF, leqF, gtrF, geqF, eqlF, neqF, den_app, den_nilL, den_consL, den_add, den_sub, den_mul, den_tdiv, den_tmod, den_mx, den_mn, den_blit, den_bin, binI, env_v, env_f, List.flatten_cons, List.flatten_nil, List.append_nil, List.cons_append, List.nil_append, List.getD_cons_zero, List.getD_cons_succ, List.getD_nil, q1 h, q2 h, q3 h, q4 h, q5 h]
    · unfold sinV; split
      · rename_i hA; exact sineI_bd hA.1 hA.2
      · omega
  , ?_⟩
  simp only [sin11T, sinFC, VT.holds, SV.eqv, SV.eqvL, den_lit, den_var, den_ite, den_cmp, den_cmpB, den_tst, den_tstF, den_negT, den_negF, den_andT, den_andF, lssT, leqT, gtrT, geqT, eqlT, neqT, lssF, leqF, gtrF, geqF, eqlF, neqF, den_app, den_nilL, den_consL, den_add, den_sub, den_mul, den_tdiv, den_tmod, den_mx, den_mn, den_blit, den_bin, binI, env_v, env_f, List.flatten_cons, List.flatten_nil, List.append_nil, List.cons_append, List.nil_append, List.getD_cons_zero, List.getD_cons_succ, List.getD_nil, q1 h, q2 h, q3 h, q4 h, q5 h, sinV, angE, true_and, and_true]
  repeat' (first | apply And.intro | intro _)
  all_goals first | trivial | (rw [if_neg (by simp only [okT, okR, okP, okD, isB, isA, isU]; omega)]; done) | (rw [if_pos (by simp only [okT, okR, okP, okD, isB, isA, isU]; omega)]; done) | (rw [if_pos (by simp only [okT, okR, okP, okD, isB, isA, isU]; omega), if_pos (by omega)]; done) | (rw [if_pos (by simp only [okT, okR, okP, okD, isB, isA, isU]; omega), if_neg (by omega)]; done)
def cosFC (f : Nat) : FC := ⟨f, [sI], .tuple [.int .i64 (.app 6 [.var 0]), .int .i64 (.app 5 [.var 0])], [], [], [(.app 6 [.var 0], -16384, 16384)]⟩
def cos10T : VT := (.ite (.cmp .leq (.lit 0) (.var 0)) (.ite (.neg (.cmp .leq (.var 0) (.lit 65535))) (.leaf (.tuple [(.int .i64 (.lit 0)), (.int .i64 (.lit 3))])) (.leaf (.tuple [(.int .i64 (.app 2 [(.op .tmod (.op .add (.var 0) (.lit 16384)) (.lit 65536))])), (.int .i64 (.lit 0))]))) (.leaf (.tuple [(.int .i64 (.lit 0)), (.int .i64 (.lit 3))])))
theorem cos10_ok {fn : Nat → List Int → Int} (h : GoodF fn) : (cosFC 10).OK Try.prog fn := by
  refine FC.ok_num (X := Xb) (d := 1) (n := 100000) (t := cos10T) mixD (Xb_ok h) rfl (by kernel_rfl) (by kernel_rfl) fun r hw hpre => ?_
  obtain ⟨xs0, r0, rfl, w0, _, hw0⟩ := hw
  obtain rfl : r0 = [] := hw0
  obtain ⟨x, rfl, hx⟩ := wfI1 w0
  refine ⟨by simp [cosFC], by
    intro p hm
    simp only [cosFC, List.mem_cons, List.not_mem_nil, or_false] at hm
    rcases hm with rfl
    all_goals simp only [den_lit, den_var, den_ite, den_cmp, den_cmpB, den_tst, den_tstF, den_negT, den_negF, den_andT, den_andF, lssT, leqT, gtrT, geqT, eqlT, neqT, lssF, leqF, gtrF, geqF, eqlF, neqF, den_app, den_nilL, den_consL, den_add, den_sub, den_mul, den_tdiv, den_tmod, den_mx, den_mn, den_blit, den_bin, binI, env_v, env_f, List.flatten_cons, List.flatten_nil, List.append_nil, List.cons_append, List.nil_append, List.getD_cons_zero, List.getD_cons_succ, List.getD_nil, q1 h, q2 h, q3 h, q5 h, q6 h]
    · unfold cosV; split
      · rename_i hA; have e := Int.tmod_eq_emod_of_nonneg (a := x + 16384) (b := 65536) (by have := hA.1; omega); exact sineI_bd (by rw [e]; omega) (by rw [e]; omega)
      · omega
  , ?_⟩
  simp only [cos10T, cosFC, VT.holds, SV.eqv, SV.eqvL, den_lit, den_var, den_ite, den_cmp, den_cmpB, den_tst, den_tstF, den_negT, den_negF, den_andT, den_andF, lssT, leqT, gtrT, geqT, eqlT, neqT, lssF, leqF, gtrF, geqF, eqlF, neqF, den_app, den_nilL, den_consL, den_add, den_sub, den_mul, den_tdiv, den_tmod, den_mx, den_mn, den_blit, den_bin, binI, env_v, env_f, List.flatten_cons, List.flatten_nil, List.append_nil, List.cons_append, List.nil_append, List.getD_cons_zero, List.getD_cons_succ, List.getD_nil, q1 h, q2 h, q3 h, q5 h, q6 h, cosV, cosI, angE, true_and, and_true]
  repeat' (first | apply And.intro | intro _)
  all_goals first | trivial | (rw [if_neg (by simp only [okT, okR, okP, okD, isB, isA, isU]; omega)]; done) | (rw [if_pos (by simp only [okT, okR, okP, okD, isB, isA, isU]; omega)]; done) | (rw [if_pos (by simp only [okT, okR, okP, okD, isB, isA, isU]; omega), if_pos (by omega)]; done) | (rw [if_pos (by simp only [okT, okR, okP, okD, isB, isA, isU]; omega), if_neg (by omega)]; done)
def cos12T : VT := (.ite (.cmp .geq (.var 0) (.lit 0)) (.ite (.neg (.cmp .leq (.var 0) (.lit 65535))) (.leaf (.tuple [(.int .i64 (.lit 0)), (.int .i64 (.lit 3))])) (.leaf (.tuple [(.int .i64 (.app 2 [(.op .tmod (.op .add (.var 0) (.lit 16384)) (.lit 65536))])), (.int .i64 (.lit 0))]))) (.leaf (.tuple [(.int .i64 (.lit 0)), (.int .i64 (.lit 3))])))
theorem cos12_ok {fn : Nat → List Int → Int} (h : GoodF fn) : (cosFC 12).OK Try.prog fn := by
  refine FC.ok_num (X := Xb) (d := 1) (n := 100000) (t := cos12T) mixD (Xb_ok h) rfl (by kernel_rfl) (by kernel_rfl) fun r hw hpre => ?_
  obtain ⟨xs0, r0, rfl, w0, _, hw0⟩ := hw
  obtain rfl : r0 = [] := hw0
  obtain ⟨x, rfl, hx⟩ := wfI1 w0
  refine ⟨by simp [cosFC], by
    intro p hm
    simp only [cosFC, List.mem_cons, List.not_mem_nil, or_false] at hm
    rcases hm with rfl
    all_goals simp only [den_lit, den_var, den_ite, den_cmp, den_cmpB, den_tst, den_tstF, den_negT, den_negF, den_andT, den_andF, lssT, leqT, gtrT, geqT, eqlT, neqT, lssF, leqF, gtrF, geqF, eqlF, neqF, den_app, den_nilL, den_consL, den_add, den_sub, den_mul, den_tdiv, den_tmod, den_mx, den_mn, den_blit, den_bin, binI, env_v, env_f, List.flatten_cons, List.flatten_nil, List.append_nil, List.cons_append, List.nil_append, List.getD_cons_zero, List.getD_cons_succ, List.getD_nil, q1 h, q2 h, q3 h, q5 h, q6 h]
    · unfold cosV; split
      · rename_i hA; have e := Int.tmod_eq_emod_of_nonneg (a := x + 16384) (b := 65536) (by have := hA.1; omega); exact sineI_bd (by rw [e]; omega) (by rw [e]; omega)
      · omega
  , ?_⟩
  simp only [cos12T, cosFC, VT.holds, SV.eqv, SV.eqvL, den_lit, den_var, den_ite, den_cmp, den_cmpB, den_tst, den_tstF, den_negT, den_negF, den_andT, den_andF, lssT, leqT, gtrT, geqT, eqlT, neqT, lssF, leqF, gtrF, geqF, eqlF, neqF, den_app, den_nilL, den_consL, den_add, den_sub, den_mul, den_tdiv, den_tmod, den_mx, den_mn, den_blit, den_bin, binI, env_v, env_f, List.flatten_cons, List.flatten_nil, List.append_nil, List.cons_append, List.nil_append, List.getD_cons_zero, List.getD_cons_succ, List.getD_nil, q1 h, q2 h, q3 h, q5 h, q6 h, cosV, cosI, angE, true_and, and_true]
  repeat' (first | apply And.intro | intro _)
  all_goals first | trivial | (rw [if_neg (by simp only [okT, okR, okP, okD, isB, isA, isU]; omega)]; done) | (rw [if_pos (by simp only [okT, okR, okP, okD, isB, isA, isU]; omega)]; done) | (rw [if_pos (by simp only [okT, okR, okP, okD, isB, isA, isU]; omega), if_pos (by omega)]; done) | (rw [if_pos (by simp only [okT, okR, okP, okD, isB, isA, isU]; omega), if_neg (by omega)]; done)
def twoFC (f : Nat) : FC := ⟨f, [sI, sI, sI], .tuple [.int .i64 (.app 7 [.var 0, .var 1, .var 2]), .int .i64 (.app 8 [.var 0, .var 1, .var 2]), .int .i64 (.app 9 [.var 0, .var 1, .var 2])], [], [], []⟩
def two13T : VT := (.ite (.cmp .leq (.lit (-1073741824)) (.var 0)) (.ite (.neg (.cmp .leq (.var 0) (.lit 1073741824))) (.leaf (.tuple [(.int .i64 (.lit 0)), (.int .i64 (.lit 0)), (.int .i64 (.lit 3))])) (.ite (.cmp .leq (.lit (-1073741824)) (.var 1)) (.ite (.neg (.cmp .leq (.var 1) (.lit 1073741824))) (.leaf (.tuple [(.int .i64 (.lit 0)), (.int .i64 (.lit 0)), (.int .i64 (.lit 3))])) (.ite (.cmp .leq (.lit (-1073741824)) (.var 2)) (.ite (.neg (.cmp .leq (.var 2) (.lit 1073741824))) (.leaf (.tuple [(.int .i64 (.lit 0)), (.int .i64 (.lit 0)), (.int .i64 (.lit 3))])) (.ite (.cmp .neq (.op .add (.op .add (.var 0) (.var 1)) (.var 2)) (.lit 0)) (.leaf (.tuple [(.int .i64 (.lit 0)), (.int .i64 (.lit 0)), (.int .i64 (.lit 20))])) (.leaf (.tuple [(.int .i64 (.var 0)), (.int .i64 (.app 1 [(.op .mul (.op .add (.var 0) (.op .mul (.lit 2) (.var 1))) (.lit 37837)), (.lit 65536)])), (.int .i64 (.lit 0))])))) (.leaf (.tuple [(.int .i64 (.lit 0)), (.int .i64 (.lit 0)), (.int .i64 (.lit 3))])))) (.leaf (.tuple [(.int .i64 (.lit 0)), (.int .i64 (.lit 0)), (.int .i64 (.lit 3))])))) (.leaf (.tuple [(.int .i64 (.lit 0)), (.int .i64 (.lit 0)), (.int .i64 (.lit 3))])))
theorem two13_ok {fn : Nat → List Int → Int} (h : GoodF fn) : (twoFC 13).OK Try.prog fn := by
  refine FC.ok_num (X := Xb) (d := 1) (n := 100000) (t := two13T) mixD (Xb_ok h) rfl (by kernel_rfl) (by kernel_rfl) fun r hw hpre => ?_
  obtain ⟨xs0, r0, rfl, w0, _, hw0⟩ := hw
  obtain ⟨xs1, r1, rfl, w1, _, hw1⟩ := hw0
  obtain ⟨xs2, r2, rfl, w2, _, hw2⟩ := hw1
  obtain rfl : r2 = [] := hw2
  obtain ⟨a, rfl, ha⟩ := wfI1 w0
  obtain ⟨b, rfl, hb⟩ := wfI1 w1
  obtain ⟨c, rfl, hc⟩ := wfI1 w2
  refine ⟨by simp [twoFC], by simp [twoFC], ?_⟩
  simp only [two13T, twoFC, VT.holds, SV.eqv, SV.eqvL, den_lit, den_var, den_ite, den_cmp, den_cmpB, den_tst, den_tstF, den_negT, den_negF, den_andT, den_andF, lssT, leqT, gtrT, geqT, eqlT, neqT, lssF, leqF, gtrF, geqF, eqlF, neqF, den_app, den_nilL, den_consL, den_add, den_sub, den_mul, den_tdiv, den_tmod, den_mx, den_mn, den_blit, den_bin, binI, env_v, env_f, List.flatten_cons, List.flatten_nil, List.append_nil, List.cons_append, List.nil_append, List.getD_cons_zero, List.getD_cons_succ, List.getD_nil, q1 h, q2 h, q3 h, q7 h, q8 h, q9 h, twoA, twoB, twoE, true_and, and_true]
  repeat' (first | apply And.intro | intro _)
  all_goals first | trivial | (rw [if_neg (by simp only [okT, okR, okP, okD, isB, isA, isU]; omega)]; done) | (rw [if_pos (by simp only [okT, okR, okP, okD, isB, isA, isU]; omega)]; done) | (rw [if_pos (by simp only [okT, okR, okP, okD, isB, isA, isU]; omega), if_pos (by omega)]; done) | (rw [if_pos (by simp only [okT, okR, okP, okD, isB, isA, isU]; omega), if_neg (by omega)]; done)
def two14T : VT := (.ite (.cmp .geq (.var 0) (.lit (-1073741824))) (.ite (.neg (.cmp .leq (.var 0) (.lit 1073741824))) (.leaf (.tuple [(.int .i64 (.lit 0)), (.int .i64 (.lit 0)), (.int .i64 (.lit 3))])) (.ite (.cmp .geq (.var 1) (.lit (-1073741824))) (.ite (.neg (.cmp .leq (.var 1) (.lit 1073741824))) (.leaf (.tuple [(.int .i64 (.lit 0)), (.int .i64 (.lit 0)), (.int .i64 (.lit 3))])) (.ite (.cmp .geq (.var 2) (.lit (-1073741824))) (.ite (.neg (.cmp .leq (.var 2) (.lit 1073741824))) (.leaf (.tuple [(.int .i64 (.lit 0)), (.int .i64 (.lit 0)), (.int .i64 (.lit 3))])) (.ite (.cmp .neq (.op .add (.op .add (.var 0) (.var 1)) (.var 2)) (.lit 0)) (.leaf (.tuple [(.int .i64 (.lit 0)), (.int .i64 (.lit 0)), (.int .i64 (.lit 20))])) (.leaf (.tuple [(.int .i64 (.var 0)), (.int .i64 (.app 1 [(.op .mul (.op .add (.var 0) (.op .mul (.lit 2) (.var 1))) (.lit 37837)), (.lit 65536)])), (.int .i64 (.lit 0))])))) (.leaf (.tuple [(.int .i64 (.lit 0)), (.int .i64 (.lit 0)), (.int .i64 (.lit 3))])))) (.leaf (.tuple [(.int .i64 (.lit 0)), (.int .i64 (.lit 0)), (.int .i64 (.lit 3))])))) (.leaf (.tuple [(.int .i64 (.lit 0)), (.int .i64 (.lit 0)), (.int .i64 (.lit 3))])))
theorem two14_ok {fn : Nat → List Int → Int} (h : GoodF fn) : (twoFC 14).OK Try.prog fn := by
  refine FC.ok_num (X := Xb) (d := 1) (n := 100000) (t := two14T) mixD (Xb_ok h) rfl (by kernel_rfl) (by kernel_rfl) fun r hw hpre => ?_
  obtain ⟨xs0, r0, rfl, w0, _, hw0⟩ := hw
  obtain ⟨xs1, r1, rfl, w1, _, hw1⟩ := hw0
  obtain ⟨xs2, r2, rfl, w2, _, hw2⟩ := hw1
  obtain rfl : r2 = [] := hw2
  obtain ⟨a, rfl, ha⟩ := wfI1 w0
  obtain ⟨b, rfl, hb⟩ := wfI1 w1
  obtain ⟨c, rfl, hc⟩ := wfI1 w2
  refine ⟨by simp [twoFC], by simp [twoFC], ?_⟩
  simp only [two14T, twoFC, VT.holds, SV.eqv, SV.eqvL, den_lit, den_var, den_ite, den_cmp, den_cmpB, den_tst, den_tstF, den_negT, den_negF, den_andT, den_andF, lssT, leqT, gtrT, geqT, eqlT, neqT, lssF, leqF, gtrF, geqF, eqlF, neqF, den_app, den_nilL, den_consL, den_add, den_sub, den_mul, den_tdiv, den_tmod, den_mx, den_mn, den_blit, den_bin, binI, env_v, env_f, List.flatten_cons, List.flatten_nil, List.append_nil, List.cons_append, List.nil_append, List.getD_cons_zero, List.getD_cons_succ, List.getD_nil, q1 h, q2 h, q3 h, q7 h, q8 h, q9 h, twoA, twoB, twoE, true_and, and_true]
  repeat' (first | apply And.intro | intro _)
  all_goals first | trivial | (rw [if_neg (by simp only [okT, okR, okP, okD, isB, isA, isU]; omega)]; done) | (rw [if_pos (by simp only [okT, okR, okP, okD, isB, isA, isU]; omega)]; done) | (rw [if_pos (by simp only [okT, okR, okP, okD, isB, isA, isU]; omega), if_pos (by omega)]; done) | (rw [if_pos (by simp only [okT, okR, okP, okD, isB, isA, isU]; omega), if_neg (by omega)]; done)
def ttFC (f : Nat) : FC := ⟨f, [sI, sI, sI], .tuple [.int .i64 (.app 10 [.var 0, .var 1, .var 2]), .int .i64 (.app 11 [.var 0, .var 1, .var 2]), .int .i64 (.app 12 [.var 0, .var 1, .var 2])], [], [], []⟩
def tt15T : VT := (.ite (.cmp .leq (.lit (-1073741824)) (.var 0)) (.ite (.neg (.cmp .leq (.var 0) (.lit 1073741824))) (.leaf (.tuple [(.int .i64 (.lit 0)), (.int .i64 (.lit 0)), (.int .i64 (.lit 3))])) (.ite (.cmp .leq (.lit (-1073741824)) (.var 1)) (.ite (.neg (.cmp .leq (.var 1) (.lit 1073741824))) (.leaf (.tuple [(.int .i64 (.lit 0)), (.int .i64 (.lit 0)), (.int .i64 (.lit 3))])) (.ite (.cmp .leq (.lit 0) (.var 2)) (.ite (.neg (.cmp .leq (.var 2) (.lit 65535))) (.leaf (.tuple [(.int .i64 (.lit 0)), (.int .i64 (.lit 0)), (.int .i64 (.lit 3))])) (.leaf (.tuple [(.int .i64 (.app 1 [(.op .add (.op .mul (.var 0) (.app 2 [(.op .tmod (.op .add (.var 2) (.lit 16384)) (.lit 65536))])) (.op .mul (.var 1) (.app 2 [(.var 2)]))), (.lit 16384)])), (.int .i64 (.app 1 [(.op .sub (.op .mul (.var 1) (.app 2 [(.op .tmod (.op .add (.var 2) (.lit 16384)) (.lit 65536))])) (.op .mul (.var 0) (.app 2 [(.var 2)]))), (.lit 16384)])), (.int .i64 (.lit 0))]))) (.leaf (.tuple [(.int .i64 (.lit 0)), (.int .i64 (.lit 0)), (.int .i64 (.lit 3))])))) (.leaf (.tuple [(.int .i64 (.lit 0)), (.int .i64 (.lit 0)), (.int .i64 (.lit 3))])))) (.leaf (.tuple [(.int .i64 (.lit 0)), (.int .i64 (.lit 0)), (.int .i64 (.lit 3))])))
theorem tt15_ok {fn : Nat → List Int → Int} (h : GoodF fn) : (ttFC 15).OK Try.prog fn := by
  refine FC.ok_num (X := Xb) (d := 1) (n := 100000) (t := tt15T) mixD (Xb_ok h) rfl (by kernel_rfl) (by kernel_rfl) fun r hw hpre => ?_
  obtain ⟨xs0, r0, rfl, w0, _, hw0⟩ := hw
  obtain ⟨xs1, r1, rfl, w1, _, hw1⟩ := hw0
  obtain ⟨xs2, r2, rfl, w2, _, hw2⟩ := hw1
  obtain rfl : r2 = [] := hw2
  obtain ⟨a, rfl, ha⟩ := wfI1 w0
  obtain ⟨b, rfl, hb⟩ := wfI1 w1
  obtain ⟨x, rfl, hx⟩ := wfI1 w2
  refine ⟨by simp [ttFC], by simp [ttFC], ?_⟩
  simp only [tt15T, ttFC, VT.holds, SV.eqv, SV.eqvL, den_lit, den_var, den_ite, den_cmp, den_cmpB, den_tst, den_tstF, den_negT, den_negF, den_andT, den_andF, lssT, leqT, gtrT, geqT, eqlT, neqT, lssF, leqF, gtrF, geqF, eqlF, neqF, den_app, den_nilL, den_consL, den_add, den_sub, den_mul, den_tdiv, den_tmod, den_mx, den_mn, den_blit, den_bin, binI, env_v, env_f, List.flatten_cons, List.flatten_nil, List.append_nil, List.cons_append, List.nil_append, List.getD_cons_zero, List.getD_cons_succ, List.getD_nil, q1 h, q2 h, q3 h, q10 h, q11 h, q12 h, ttD, ttQ, ttE, cosI, true_and, and_true]
  repeat' (first | apply And.intro | intro _)
  all_goals first | trivial | (rw [if_neg (by simp only [okT, okR, okP, okD, isB, isA, isU]; omega)]; done) | (rw [if_pos (by simp only [okT, okR, okP, okD, isB, isA, isU]; omega)]; done) | (rw [if_pos (by simp only [okT, okR, okP, okD, isB, isA, isU]; omega), if_pos (by omega)]; done) | (rw [if_pos (by simp only [okT, okR, okP, okD, isB, isA, isU]; omega), if_neg (by omega)]; done)
def tt16T : VT := (.ite (.cmp .geq (.var 0) (.lit (-1073741824))) (.ite (.neg (.cmp .leq (.var 0) (.lit 1073741824))) (.leaf (.tuple [(.int .i64 (.lit 0)), (.int .i64 (.lit 0)), (.int .i64 (.lit 3))])) (.ite (.cmp .geq (.var 1) (.lit (-1073741824))) (.ite (.neg (.cmp .leq (.var 1) (.lit 1073741824))) (.leaf (.tuple [(.int .i64 (.lit 0)), (.int .i64 (.lit 0)), (.int .i64 (.lit 3))])) (.ite (.cmp .geq (.var 2) (.lit 0)) (.ite (.neg (.cmp .leq (.var 2) (.lit 65535))) (.leaf (.tuple [(.int .i64 (.lit 0)), (.int .i64 (.lit 0)), (.int .i64 (.lit 3))])) (.leaf (.tuple [(.int .i64 (.app 1 [(.op .add (.op .mul (.var 0) (.app 2 [(.op .tmod (.op .add (.var 2) (.lit 16384)) (.lit 65536))])) (.op .mul (.var 1) (.app 2 [(.var 2)]))), (.lit 16384)])), (.int .i64 (.app 1 [(.op .sub (.op .mul (.var 1) (.app 2 [(.op .tmod (.op .add (.var 2) (.lit 16384)) (.lit 65536))])) (.op .mul (.var 0) (.app 2 [(.var 2)]))), (.lit 16384)])), (.int .i64 (.lit 0))]))) (.leaf (.tuple [(.int .i64 (.lit 0)), (.int .i64 (.lit 0)), (.int .i64 (.lit 3))])))) (.leaf (.tuple [(.int .i64 (.lit 0)), (.int .i64 (.lit 0)), (.int .i64 (.lit 3))])))) (.leaf (.tuple [(.int .i64 (.lit 0)), (.int .i64 (.lit 0)), (.int .i64 (.lit 3))])))
theorem tt16_ok {fn : Nat → List Int → Int} (h : GoodF fn) : (ttFC 16).OK Try.prog fn := by
  refine FC.ok_num (X := Xb) (d := 1) (n := 100000) (t := tt16T) mixD (Xb_ok h) rfl (by kernel_rfl) (by kernel_rfl) fun r hw hpre => ?_
  obtain ⟨xs0, r0, rfl, w0, _, hw0⟩ := hw
  obtain ⟨xs1, r1, rfl, w1, _, hw1⟩ := hw0
  obtain ⟨xs2, r2, rfl, w2, _, hw2⟩ := hw1
  obtain rfl : r2 = [] := hw2
  obtain ⟨a, rfl, ha⟩ := wfI1 w0
  obtain ⟨b, rfl, hb⟩ := wfI1 w1
  obtain ⟨x, rfl, hx⟩ := wfI1 w2
  refine ⟨by simp [ttFC], by simp [ttFC], ?_⟩
  simp only [tt16T, ttFC, VT.holds, SV.eqv, SV.eqvL, den_lit, den_var, den_ite, den_cmp, den_cmpB, den_tst, den_tstF, den_negT, den_negF, den_andT, den_andF, lssT, leqT, gtrT, geqT, eqlT, neqT, lssF, leqF, gtrF, geqF, eqlF, neqF, den_app, den_nilL, den_consL, den_add, den_sub, den_mul, den_tdiv, den_tmod, den_mx, den_mn, den_blit, den_bin, binI, env_v, env_f, List.flatten_cons, List.flatten_nil, List.append_nil, List.cons_append, List.nil_append, List.getD_cons_zero, List.getD_cons_succ, List.getD_nil, q1 h, q2 h, q3 h, q10 h, q11 h, q12 h, ttD, ttQ, ttE, cosI, true_and, and_true]
  repeat' (first | apply And.intro | intro _)
  all_goals first | trivial | (rw [if_neg (by simp only [okT, okR, okP, okD, isB, isA, isU]; omega)]; done) | (rw [if_pos (by simp only [okT, okR, okP, okD, isB, isA, isU]; omega)]; done) | (rw [if_pos (by simp only [okT, okR, okP, okD, isB, isA, isU]; omega), if_pos (by omega)]; done) | (rw [if_pos (by simp only [okT, okR, okP, okD, isB, isA, isU]; omega), if_neg (by omega)]; done)
def tbFC (f : Nat) : FC := ⟨f, [sI, sI, sI], .tuple [.int .i64 (.app 13 [.var 0, .var 1, .var 2]), .int .i64 (.app 14 [.var 0, .var 1, .var 2]), .int .i64 (.app 12 [.var 0, .var 1, .var 2])], [], [], []⟩
def tb17T : VT := (.ite (.cmp .leq (.lit (-1073741824)) (.var 0)) (.ite (.neg (.cmp .leq (.var 0) (.lit 1073741824))) (.leaf (.tuple [(.int .i64 (.lit 0)), (.int .i64 (.lit 0)), (.int .i64 (.lit 3))])) (.ite (.cmp .leq (.lit (-1073741824)) (.var 1)) (.ite (.neg (.cmp .leq (.var 1) (.lit 1073741824))) (.leaf (.tuple [(.int .i64 (.lit 0)), (.int .i64 (.lit 0)), (.int .i64 (.lit 3))])) (.ite (.cmp .leq (.lit 0) (.var 2)) (.ite (.neg (.cmp .leq (.var 2) (.lit 65535))) (.leaf (.tuple [(.int .i64 (.lit 0)), (.int .i64 (.lit 0)), (.int .i64 (.lit 3))])) (.leaf (.tuple [(.int .i64 (.app 1 [(.op .sub (.op .mul (.var 0) (.app 2 [(.op .tmod (.op .add (.var 2) (.lit 16384)) (.lit 65536))])) (.op .mul (.var 1) (.app 2 [(.var 2)]))), (.lit 16384)])), (.int .i64 (.app 1 [(.op .add (.op .mul (.var 0) (.app 2 [(.var 2)])) (.op .mul (.var 1) (.app 2 [(.op .tmod (.op .add (.var 2) (.lit 16384)) (.lit 65536))]))), (.lit 16384)])), (.int .i64 (.lit 0))]))) (.leaf (.tuple [(.int .i64 (.lit 0)), (.int .i64 (.lit 0)), (.int .i64 (.lit 3))])))) (.leaf (.tuple [(.int .i64 (.lit 0)), (.int .i64 (.lit 0)), (.int .i64 (.lit 3))])))) (.leaf (.tuple [(.int .i64 (.lit 0)), (.int .i64 (.lit 0)), (.int .i64 (.lit 3))])))
theorem tb17_ok {fn : Nat → List Int → Int} (h : GoodF fn) : (tbFC 17).OK Try.prog fn := by
  refine FC.ok_num (X := Xb) (d := 1) (n := 100000) (t := tb17T) mixD (Xb_ok h) rfl (by kernel_rfl) (by kernel_rfl) fun r hw hpre => ?_
  obtain ⟨xs0, r0, rfl, w0, _, hw0⟩ := hw
  obtain ⟨xs1, r1, rfl, w1, _, hw1⟩ := hw0
  obtain ⟨xs2, r2, rfl, w2, _, hw2⟩ := hw1
  obtain rfl : r2 = [] := hw2
  obtain ⟨a, rfl, ha⟩ := wfI1 w0
  obtain ⟨b, rfl, hb⟩ := wfI1 w1
  obtain ⟨x, rfl, hx⟩ := wfI1 w2
  refine ⟨by simp [tbFC], by simp [tbFC], ?_⟩
  simp only [tb17T, tbFC, VT.holds, SV.eqv, SV.eqvL, den_lit, den_var, den_ite, den_cmp, den_cmpB, den_tst, den_tstF, den_negT, den_negF, den_andT, den_andF, lssT, leqT, gtrT, geqT, eqlT, neqT, lssF, leqF, gtrF, geqF, eqlF, neqF, den_app, den_nilL, den_consL, den_add, den_sub, den_mul, den_tdiv, den_tmod, den_mx, den_mn, den_blit, den_bin, binI, env_v, env_f, List.flatten_cons, List.flatten_nil, List.append_nil, List.cons_append, List.nil_append, List.getD_cons_zero, List.getD_cons_succ, List.getD_nil, q1 h, q2 h, q3 h, q12 h, q13 h, q14 h, tbD, tbQ, ttE, cosI, true_and, and_true]
  repeat' (first | apply And.intro | intro _)
  all_goals first | trivial | (rw [if_neg (by simp only [okT, okR, okP, okD, isB, isA, isU]; omega)]; done) | (rw [if_pos (by simp only [okT, okR, okP, okD, isB, isA, isU]; omega)]; done) | (rw [if_pos (by simp only [okT, okR, okP, okD, isB, isA, isU]; omega), if_pos (by omega)]; done) | (rw [if_pos (by simp only [okT, okR, okP, okD, isB, isA, isU]; omega), if_neg (by omega)]; done)
def tb18T : VT := (.ite (.cmp .geq (.var 0) (.lit (-1073741824))) (.ite (.neg (.cmp .leq (.var 0) (.lit 1073741824))) (.leaf (.tuple [(.int .i64 (.lit 0)), (.int .i64 (.lit 0)), (.int .i64 (.lit 3))])) (.ite (.cmp .geq (.var 1) (.lit (-1073741824))) (.ite (.neg (.cmp .leq (.var 1) (.lit 1073741824))) (.leaf (.tuple [(.int .i64 (.lit 0)), (.int .i64 (.lit 0)), (.int .i64 (.lit 3))])) (.ite (.cmp .geq (.var 2) (.lit 0)) (.ite (.neg (.cmp .leq (.var 2) (.lit 65535))) (.leaf (.tuple [(.int .i64 (.lit 0)), (.int .i64 (.lit 0)), (.int .i64 (.lit 3))])) (.leaf (.tuple [(.int .i64 (.app 1 [(.op .sub (.op .mul (.var 0) (.app 2 [(.op .tmod (.op .add (.var 2) (.lit 16384)) (.lit 65536))])) (.op .mul (.var 1) (.app 2 [(.var 2)]))), (.lit 16384)])), (.int .i64 (.app 1 [(.op .add (.op .mul (.var 0) (.app 2 [(.var 2)])) (.op .mul (.var 1) (.app 2 [(.op .tmod (.op .add (.var 2) (.lit 16384)) (.lit 65536))]))), (.lit 16384)])), (.int .i64 (.lit 0))]))) (.leaf (.tuple [(.int .i64 (.lit 0)), (.int .i64 (.lit 0)), (.int .i64 (.lit 3))])))) (.leaf (.tuple [(.int .i64 (.lit 0)), (.int .i64 (.lit 0)), (.int .i64 (.lit 3))])))) (.leaf (.tuple [(.int .i64 (.lit 0)), (.int .i64 (.lit 0)), (.int .i64 (.lit 3))])))
theorem tb18_ok {fn : Nat → List Int → Int} (h : GoodF fn) : (tbFC 18).OK Try.prog fn := by
  refine FC.ok_num (X := Xb) (d := 1) (n := 100000) (t := tb18T) mixD (Xb_ok h) rfl (by kernel_rfl) (by kernel_rfl) fun r hw hpre => ?_
  obtain ⟨xs0, r0, rfl, w0, _, hw0⟩ := hw
  obtain ⟨xs1, r1, rfl, w1, _, hw1⟩ := hw0
  obtain ⟨xs2, r2, rfl, w2, _, hw2⟩ := hw1
  obtain rfl : r2 = [] := hw2
  obtain ⟨a, rfl, ha⟩ := wfI1 w0
  obtain ⟨b, rfl, hb⟩ := wfI1 w1
  obtain ⟨x, rfl, hx⟩ := wfI1 w2
  refine ⟨by simp [tbFC], by simp [tbFC], ?_⟩
  simp only [tb18T, tbFC, VT.holds, SV.eqv, SV.eqvL, den_lit, den_var, den_ite, den_cmp, den_cmpB, den_tst, den_tstF, den_negT, den_negF, den_andT, den_andF, lssT, leqT, gtrT, geqT, eqlT, neqT, lssF, leqF, gtrF, geqF, eqlF, neqF, den_app, den_nilL, den_consL, den_add, den_sub, den_mul, den_tdiv, den_tmod, den_mx, den_mn, den_blit, den_bin, binI, env_v, env_f, List.flatten_cons, List.flatten_nil, List.append_nil, List.cons_append, List.nil_append, List.getD_cons_zero, List.getD_cons_succ, List.getD_nil, q1 h, q2 h, q3 h, q12 h, q13 h, q14 h, tbD, tbQ, ttE, cosI, true_and, and_true]
  repeat' (first | apply And.intro | intro _)
  all_goals first | trivial | (rw [if_neg (by simp only [okT, okR, okP, okD, isB, isA, isU]; omega)]; done) | (rw [if_pos (by simp only [okT, okR, okP, okD, isB, isA, isU]; omega)]; done) | (rw [if_pos (by simp only [okT, okR, okP, okD, isB, isA, isU]; omega), if_pos (by omega)]; done) | (rw [if_pos (by simp only [okT, okR, okP, okD, isB, isA, isU]; omega), if_neg (by omega)]; done)
def phFC (f : Nat) : FC := ⟨f, [sI, sI], .tuple [.agg [.int .i64 (.app 15 [.var 0, .var 1]), .int .i64 (.app 16 [.var 0, .var 1]), .int .i64 (.app 17 [.var 0, .var 1])], .int .i64 (.app 18 [.var 0, .var 1])], [], [], []⟩
def ph19T : VT := (.ite (.cmp .leq (.lit (-1073741824)) (.var 0)) (.ite (.neg (.cmp .leq (.var 0) (.lit 1073741824))) (.leaf (.tuple [(.agg [(.int .i64 (.lit 0)), (.int .i64 (.lit 0)), (.int .i64 (.lit 0))]), (.int .i64 (.lit 3))])) (.ite (.cmp .leq (.lit (-1073741824)) (.var 1)) (.ite (.neg (.cmp .leq (.var 1) (.lit 1073741824))) (.leaf (.tuple [(.agg [(.int .i64 (.lit 0)), (.int .i64 (.lit 0)), (.int .i64 (.lit 0))]), (.int .i64 (.lit 3))])) (.leaf (.tuple [(.agg [(.int .i64 (.var 0)), (.int .i64 (.app 1 [(.op .sub (.app 1 [(.op .mul (.var 1) (.lit 113512)), (.lit 65536)]) (.var 0)), (.lit 2)])), (.int .i64 (.app 1 [(.op .sub (.op .sub (.lit 0) (.app 1 [(.op .mul (.var 1) (.lit 113512)), (.lit 65536)])) (.var 0)), (.lit 2)]))]), (.int .i64 (.lit 0))]))) (.leaf (.tuple [(.agg [(.int .i64 (.lit 0)), (.int .i64 (.lit 0)), (.int .i64 (.lit 0))]), (.int .i64 (.lit 3))])))) (.leaf (.tuple [(.agg [(.int .i64 (.lit 0)), (.int .i64 (.lit 0)), (.int .i64 (.lit 0))]), (.int .i64 (.lit 3))])))
theorem ph19_ok {fn : Nat → List Int → Int} (h : GoodF fn) : (phFC 19).OK Try.prog fn := by
  refine FC.ok_num (X := Xb) (d := 1) (n := 100000) (t := ph19T) mixD (Xb_ok h) rfl (by kernel_rfl) (by kernel_rfl) fun r hw hpre => ?_
  obtain ⟨xs0, r0, rfl, w0, _, hw0⟩ := hw
  obtain ⟨xs1, r1, rfl, w1, _, hw1⟩ := hw0
  obtain rfl : r1 = [] := hw1
  obtain ⟨a, rfl, ha⟩ := wfI1 w0
  obtain ⟨b, rfl, hb⟩ := wfI1 w1
  refine ⟨by simp [phFC], by simp [phFC], ?_⟩
  simp only [ph19T, phFC, VT.holds, SV.eqv, SV.eqvL, den_lit, den_var, den_ite, den_cmp, den_cmpB, den_tst, den_tstF, den_negT, den_negF, den_andT, den_andF, lssT, leqT, gtrT, geqT, eqlT, neqT, lssF, leqF, gtrF, geqF, eqlF, neqF, den_app, den_nilL, den_consL, den_add, den_sub, den_mul, den_tdiv, den_tmod, den_mx, den_mn, den_blit, den_bin, binI, env_v, env_f, List.flatten_cons, List.flatten_nil, List.append_nil, List.cons_append, List.nil_append, List.getD_cons_zero, List.getD_cons_succ, List.getD_nil, q1 h, q2 h, q3 h, q15 h, q16 h, q17 h, q18 h, phA, phB, phC, phE, true_and, and_true]
  repeat' (first | apply And.intro | intro _)
  all_goals first | trivial | (rw [if_neg (by simp only [okT, okR, okP, okD, isB, isA, isU]; omega)]; done) | (rw [if_pos (by simp only [okT, okR, okP, okD, isB, isA, isU]; omega)]; done) | (rw [if_pos (by simp only [okT, okR, okP, okD, isB, isA, isU]; omega), if_pos (by omega)]; done) | (rw [if_pos (by simp only [okT, okR, okP, okD, isB, isA, isU]; omega), if_neg (by omega)]; done)
def ph20T : VT := (.ite (.cmp .geq (.var 0) (.lit (-1073741824))) (.ite (.neg (.cmp .leq (.var 0) (.lit 1073741824))) (.leaf (.tuple [(.agg [(.int .i64 (.lit 0)), (.int .i64 (.lit 0)), (.int .i64 (.lit 0))]), (.int .i64 (.lit 3))])) (.ite (.cmp .geq (.var 1) (.lit (-1073741824))) (.ite (.neg (.cmp .leq (.var 1) (.lit 1073741824))) (.leaf (.tuple [(.agg [(.int .i64 (.lit 0)), (.int .i64 (.lit 0)), (.int .i64 (.lit 0))]), (.int .i64 (.lit 3))])) (.leaf (.tuple [(.agg [(.int .i64 (.var 0)), (.int .i64 (.app 1 [(.op .sub (.app 1 [(.op .mul (.var 1) (.lit 113512)), (.lit 65536)]) (.var 0)), (.lit 2)])), (.int .i64 (.app 1 [(.op .sub (.op .sub (.lit 0) (.app 1 [(.op .mul (.var 1) (.lit 113512)), (.lit 65536)])) (.var 0)), (.lit 2)]))]), (.int .i64 (.lit 0))]))) (.leaf (.tuple [(.agg [(.int .i64 (.lit 0)), (.int .i64 (.lit 0)), (.int .i64 (.lit 0))]), (.int .i64 (.lit 3))])))) (.leaf (.tuple [(.agg [(.int .i64 (.lit 0)), (.int .i64 (.lit 0)), (.int .i64 (.lit 0))]), (.int .i64 (.lit 3))])))
theorem ph20_ok {fn : Nat → List Int → Int} (h : GoodF fn) : (phFC 20).OK Try.prog fn := by
  refine FC.ok_num (X := Xb) (d := 1) (n := 100000) (t := ph20T) mixD (Xb_ok h) rfl (by kernel_rfl) (by kernel_rfl) fun r hw hpre => ?_
  obtain ⟨xs0, r0, rfl, w0, _, hw0⟩ := hw
  obtain ⟨xs1, r1, rfl, w1, _, hw1⟩ := hw0
  obtain rfl : r1 = [] := hw1
  obtain ⟨a, rfl, ha⟩ := wfI1 w0
  obtain ⟨b, rfl, hb⟩ := wfI1 w1
  refine ⟨by simp [phFC], by simp [phFC], ?_⟩
  simp only [ph20T, phFC, VT.holds, SV.eqv, SV.eqvL, den_lit, den_var, den_ite, den_cmp, den_cmpB, den_tst, den_tstF, den_negT, den_negF, den_andT, den_andF, lssT, leqT, gtrT, geqT, eqlT, neqT, lssF, leqF, gtrF, geqF, eqlF, neqF, den_app, den_nilL, den_consL, den_add, den_sub, den_mul, den_tdiv, den_tmod, den_mx, den_mn, den_blit, den_bin, binI, env_v, env_f, List.flatten_cons, List.flatten_nil, List.append_nil, List.cons_append, List.nil_append, List.getD_cons_zero, List.getD_cons_succ, List.getD_nil, q1 h, q2 h, q3 h, q15 h, q16 h, q17 h, q18 h, phA, phB, phC, phE, true_and, and_true]
  repeat' (first | apply And.intro | intro _)
  all_goals first | trivial | (rw [if_neg (by simp only [okT, okR, okP, okD, isB, isA, isU]; omega)]; done) | (rw [if_pos (by simp only [okT, okR, okP, okD, isB, isA, isU]; omega)]; done) | (rw [if_pos (by simp only [okT, okR, okP, okD, isB, isA, isU]; omega), if_pos (by omega)]; done) | (rw [if_pos (by simp only [okT, okR, okP, okD, isB, isA, isU]; omega), if_neg (by omega)]; done)
def duFC (f : Nat) : FC := ⟨f, [(true, [some .i64, some .i64, some .i64]), sI], .tuple [.agg [.int .i64 (.app 20 [.var 0, .var 1, .var 2, .var 3]), .int .i64 (.app 21 [.var 0, .var 1, .var 2, .var 3]), .int .i64 (.app 22 [.var 0, .var 1, .var 2, .var 3])], .bool (.tst (.app 23 [.var 0, .var 1, .var 2, .var 3])), .int .i64 (.app 24 [.var 0, .var 1, .var 2, .var 3])], [], [], [(.app 20 [.var 0, .var 1, .var 2, .var 3], 0, 65536), (.app 21 [.var 0, .var 1, .var 2, .var 3], 0, 65536), (.app 22 [.var 0, .var 1, .var 2, .var 3], 0, 65536)]⟩
theorem dut_bd (x a b c u : Int) : 0 ≤ dutV x a b c u ∧ dutV x a b c u ≤ 65536 := by
  unfold dutV dut br
  split <;> omega
/-- a phase that is cut is not farther out -/
theorem cut_bd {x u w : Int} (hx : isB x) (hu : isU u) (hw : u < w) : -1073741824 ≤ x * u / w ∧ x * u / w ≤ 1073741824 := by
  unfold isB isU at *
  have m1 := Int.mul_le_mul_of_nonneg_right hx.1 (show 0 ≤ u by omega)
  have m2 := Int.mul_le_mul_of_nonneg_right hx.2 (show 0 ≤ u by omega)
  refine ⟨?_, ?_⟩
  · rw [Int.le_ediv_iff_mul_le (by omega)]; omega
  · have : x * u / w < 1073741825 := (Int.ediv_lt_iff_lt_mul (by omega)).2 (by omega)
    omega
theorem tstB (env : Env) (e : E) : (BE.tst e).den env = (e.den env != 0) := rfl
theorem gtrB (x y : Int) : cmpI .gtr x y = decide (x > y) := rfl
def du21T : VT := (.ite (.cmp .leq (.lit (-1073741824)) (.var 0)) (.ite (.neg (.cmp .leq (.var 0) (.lit 1073741824))) (.leaf (.tuple [(.agg [(.int .i64 (.lit 0)), (.int .i64 (.lit 0)), (.int .i64 (.lit 0))]), (.bool (.lit false)), (.int .i64 (.lit 3))])) (.ite (.cmp .leq (.lit (-1073741824)) (.var 1)) (.ite (.neg (.cmp .leq (.var 1) (.lit 1073741824))) (.leaf (.tuple [(.agg [(.int .i64 (.lit 0)), (.int .i64 (.lit 0)), (.int .i64 (.lit 0))]), (.bool (.lit false)), (.int .i64 (.lit 3))])) (.ite (.cmp .leq (.lit (-1073741824)) (.var 2)) (.ite (.neg (.cmp .leq (.var 2) (.lit 1073741824))) (.leaf (.tuple [(.agg [(.int .i64 (.lit 0)), (.int .i64 (.lit 0)), (.int .i64 (.lit 0))]), (.bool (.lit false)), (.int .i64 (.lit 3))])) (.ite (.cmp .leq (.lit 1) (.var 3)) (.ite (.neg (.cmp .leq (.var 3) (.lit 1073741824))) (.leaf (.tuple [(.agg [(.int .i64 (.lit 0)), (.int .i64 (.lit 0)), (.int .i64 (.lit 0))]), (.bool (.lit false)), (.int .i64 (.lit 3))])) (.ite (.cmp .gtr (.op .sub (.op .mx (.op .mx (.var 0) (.var 1)) (.var 2)) (.op .mn (.op .mn (.var 0) (.var 1)) (.var 2))) (.var 3)) (.leaf (.tuple [(.agg [(.int .i64 (.app 3 [(.app 1 [(.bin .mul .i64 (.op .add (.op .sub (.op .sub (.op .mul (.lit 2) (.app 1 [(.op .mul (.var 0) (.var 3)), (.op .sub (.op .mx (.op .mx (.var 0) (.var 1)) (.var 2)) (.op .mn (.op .mn (.var 0) (.var 1)) (.var 2)))])) (.op .mx (.op .mx (.app 1 [(.op .mul (.var 0) (.var 3)), (.op .sub (.op .mx (.op .mx (.var 0) (.var 1)) (.var 2)) (.op .mn (.op .mn (.var 0) (.var 1)) (.var 2)))]) (.app 1 [(.op .mul (.var 1) (.var 3)), (.op .sub (.op .mx (.op .mx (.var 0) (.var 1)) (.var 2)) (.op .mn (.op .mn (.var 0) (.var 1)) (.var 2)))])) (.app 1 [(.op .mul (.var 2) (.var 3)), (.op .sub (.op .mx (.op .mx (.var 0) (.var 1)) (.var 2)) (.op .mn (.op .mn (.var 0) (.var 1)) (.var 2)))]))) (.op .mn (.op .mn (.app 1 [(.op .mul (.var 0) (.var 3)), (.op .sub (.op .mx (.op .mx (.var 0) (.var 1)) (.var 2)) (.op .mn (.op .mn (.var 0) (.var 1)) (.var 2)))]) (.app 1 [(.op .mul (.var 1) (.var 3)), (.op .sub (.op .mx (.op .mx (.var 0) (.var 1)) (.var 2)) (.op .mn (.op .mn (.var 0) (.var 1)) (.var 2)))])) (.app 1 [(.op .mul (.var 2) (.var 3)), (.op .sub (.op .mx (.op .mx (.var 0) (.var 1)) (.var 2)) (.op .mn (.op .mn (.var 0) (.var 1)) (.var 2)))]))) (.var 3)) (.lit 65536)), (.op .mul (.lit 2) (.var 3))]), (.lit 0), (.lit 65536)])), (.int .i64 (.app 3 [(.app 1 [(.bin .mul .i64 (.op .add (.op .sub (.op .sub (.op .mul (.lit 2) (.app 1 [(.op .mul (.var 1) (.var 3)), (.op .sub (.op .mx (.op .mx (.var 0) (.var 1)) (.var 2)) (.op .mn (.op .mn (.var 0) (.var 1)) (.var 2)))])) (.op .mx (.op .mx (.app 1 [(.op .mul (.var 0) (.var 3)), (.op .sub (.op .mx (.op .mx (.var 0) (.var 1)) (.var 2)) (.op .mn (.op .mn (.var 0) (.var 1)) (.var 2)))]) (.app 1 [(.op .mul (.var 1) (.var 3)), (.op .sub (.op .mx (.op .mx (.var 0) (.var 1)) (.var 2)) (.op .mn (.op .mn (.var 0) (.var 1)) (.var 2)))])) (.app 1 [(.op .mul (.var 2) (.var 3)), (.op .sub (.op .mx (.op .mx (.var 0) (.var 1)) (.var 2)) (.op .mn (.op .mn (.var 0) (.var 1)) (.var 2)))]))) (.op .mn (.op .mn (.app 1 [(.op .mul (.var 0) (.var 3)), (.op .sub (.op .mx (.op .mx (.var 0) (.var 1)) (.var 2)) (.op .mn (.op .mn (.var 0) (.var 1)) (.var 2)))]) (.app 1 [(.op .mul (.var 1) (.var 3)), (.op .sub (.op .mx (.op .mx (.var 0) (.var 1)) (.var 2)) (.op .mn (.op .mn (.var 0) (.var 1)) (.var 2)))])) (.app 1 [(.op .mul (.var 2) (.var 3)), (.op .sub (.op .mx (.op .mx (.var 0) (.var 1)) (.var 2)) (.op .mn (.op .mn (.var 0) (.var 1)) (.var 2)))]))) (.var 3)) (.lit 65536)), (.op .mul (.lit 2) (.var 3))]), (.lit 0), (.lit 65536)])), (.int .i64 (.app 3 [(.app 1 [(.bin .mul .i64 (.op .add (.op .sub (.op .sub (.op .mul (.lit 2) (.app 1 [(.op .mul (.var 2) (.var 3)), (.op .sub (.op .mx (.op .mx (.var 0) (.var 1)) (.var 2)) (.op .mn (.op .mn (.var 0) (.var 1)) (.var 2)))])) (.op .mx (.op .mx (.app 1 [(.op .mul (.var 0) (.var 3)), (.op .sub (.op .mx (.op .mx (.var 0) (.var 1)) (.var 2)) (.op .mn (.op .mn (.var 0) (.var 1)) (.var 2)))]) (.app 1 [(.op .mul (.var 1) (.var 3)), (.op .sub (.op .mx (.op .mx (.var 0) (.var 1)) (.var 2)) (.op .mn (.op .mn (.var 0) (.var 1)) (.var 2)))])) (.app 1 [(.op .mul (.var 2) (.var 3)), (.op .sub (.op .mx (.op .mx (.var 0) (.var 1)) (.var 2)) (.op .mn (.op .mn (.var 0) (.var 1)) (.var 2)))]))) (.op .mn (.op .mn (.app 1 [(.op .mul (.var 0) (.var 3)), (.op .sub (.op .mx (.op .mx (.var 0) (.var 1)) (.var 2)) (.op .mn (.op .mn (.var 0) (.var 1)) (.var 2)))]) (.app 1 [(.op .mul (.var 1) (.var 3)), (.op .sub (.op .mx (.op .mx (.var 0) (.var 1)) (.var 2)) (.op .mn (.op .mn (.var 0) (.var 1)) (.var 2)))])) (.app 1 [(.op .mul (.var 2) (.var 3)), (.op .sub (.op .mx (.op .mx (.var 0) (.var 1)) (.var 2)) (.op .mn (.op .mn (.var 0) (.var 1)) (.var 2)))]))) (.var 3)) (.lit 65536)), (.op .mul (.lit 2) (.var 3))]), (.lit 0), (.lit 65536)]))]), (.bool (.cmp .gtr (.op .sub (.op .mx (.op .mx (.var 0) (.var 1)) (.var 2)) (.op .mn (.op .mn (.var 0) (.var 1)) (.var 2))) (.var 3))), (.int .i64 (.lit 0))])) (.leaf (.tuple [(.agg [(.int .i64 (.app 3 [(.app 1 [(.op .mul (.op .add (.op .sub (.op .sub (.op .mul (.lit 2) (.var 0)) (.op .mx (.op .mx (.var 0) (.var 1)) (.var 2))) (.op .mn (.op .mn (.var 0) (.var 1)) (.var 2))) (.var 3)) (.lit 65536)), (.op .mul (.lit 2) (.var 3))]), (.lit 0), (.lit 65536)])), (.int .i64 (.app 3 [(.app 1 [(.op .mul (.op .add (.op .sub (.op .sub (.op .mul (.lit 2) (.var 1)) (.op .mx (.op .mx (.var 0) (.var 1)) (.var 2))) (.op .mn (.op .mn (.var 0) (.var 1)) (.var 2))) (.var 3)) (.lit 65536)), (.op .mul (.lit 2) (.var 3))]), (.lit 0), (.lit 65536)])), (.int .i64 (.app 3 [(.app 1 [(.op .mul (.op .add (.op .sub (.op .sub (.op .mul (.lit 2) (.var 2)) (.op .mx (.op .mx (.var 0) (.var 1)) (.var 2))) (.op .mn (.op .mn (.var 0) (.var 1)) (.var 2))) (.var 3)) (.lit 65536)), (.op .mul (.lit 2) (.var 3))]), (.lit 0), (.lit 65536)]))]), (.bool (.cmp .gtr (.op .sub (.op .mx (.op .mx (.var 0) (.var 1)) (.var 2)) (.op .mn (.op .mn (.var 0) (.var 1)) (.var 2))) (.var 3))), (.int .i64 (.lit 0))])))) (.leaf (.tuple [(.agg [(.int .i64 (.lit 0)), (.int .i64 (.lit 0)), (.int .i64 (.lit 0))]), (.bool (.lit false)), (.int .i64 (.lit 3))])))) (.leaf (.tuple [(.agg [(.int .i64 (.lit 0)), (.int .i64 (.lit 0)), (.int .i64 (.lit 0))]), (.bool (.lit false)), (.int .i64 (.lit 3))])))) (.leaf (.tuple [(.agg [(.int .i64 (.lit 0)), (.int .i64 (.lit 0)), (.int .i64 (.lit 0))]), (.bool (.lit false)), (.int .i64 (.lit 3))])))) (.leaf (.tuple [(.agg [(.int .i64 (.lit 0)), (.int .i64 (.lit 0)), (.int .i64 (.lit 0))]), (.bool (.lit false)), (.int .i64 (.lit 3))])))
theorem du21_ok {fn : Nat → List Int → Int} (h : GoodF fn) : (duFC 21).OK Try.prog fn := by
  refine FC.ok_num (X := Xb) (d := 0) (n := 100000) (t := du21T) mixD (Xb_ok h) rfl (by kernel_rfl) (by kernel_rfl) fun r hw hpre => ?_
  obtain ⟨xs0, r0, rfl, w0, _, hw0⟩ := hw
  obtain ⟨xs1, r1, rfl, w1, _, hw1⟩ := hw0
  obtain rfl : r1 = [] := hw1
  obtain ⟨a, b, c, rfl, ha, hb, hc⟩ := wfI3 w0
  obtain ⟨u, rfl, hu⟩ := wfI1 w1
  refine ⟨by simp [duFC], by
    intro p hm
    simp only [duFC, List.mem_cons, List.not_mem_nil, or_false] at hm
    rcases hm with rfl | rfl | rfl
    all_goals simp only [den_lit, den_var, den_ite, den_cmp, den_cmpB, den_tst, den_tstF, den_negT, den_negF, den_andT, den_andF, lssT, leqT, gtrT, geqT, eqlT, neqT, lssF, leqF, gtrF, geqF, eqlF, neqF, den_app, den_nilL, den_consL, den_add, den_sub, den_mul, den_tdiv, den_tmod, den_mx, den_mn, den_blit, den_bin, binI, env_v, env_f, List.flatten_cons, List.flatten_nil, List.append_nil, List.cons_append, List.nil_append, List.getD_cons_zero, List.getD_cons_succ, List.getD_nil, q1 h, q2 h, q3 h, q20 h, q21 h, q22 h, q23 h, q24 h]
    · unfold dutA; split
      · exact dut_bd _ _ _ _ _
      · omega
    · unfold dutB; split
      · exact dut_bd _ _ _ _ _
      · omega
    · unfold dutC; split
      · exact dut_bd _ _ _ _ _
      · omega
  , ?_⟩
  simp only [du21T, duFC, VT.holds, SV.eqv, SV.eqvL, tstB, den_lit, den_var, den_ite, den_cmp, den_cmpB, den_tst, den_tstF, den_negT, den_negF, den_andT, den_andF, lssT, leqT, gtrT, geqT, eqlT, neqT, lssF, leqF, gtrF, geqF, eqlF, neqF, den_app, den_nilL, den_consL, den_add, den_sub, den_mul, den_tdiv, den_tmod, den_mx, den_mn, den_blit, den_bin, binI, env_v, env_f, List.flatten_cons, List.flatten_nil, List.append_nil, List.cons_append, List.nil_append, List.getD_cons_zero, List.getD_cons_succ, List.getD_nil, q1 h, q2 h, q3 h, q20 h, q21 h, q22 h, q23 h, q24 h, true_and, and_true]
  by_cases hk : okD a b c u
  case neg =>
    simp only [dutA, dutB, dutC, dutT, dutE, if_neg hk]
    simp only [okT, okR, okP, okD, isB, isA, isU] at hk
    repeat' (first | apply And.intro | intro _)
    all_goals first | trivial | rfl | omega
  simp only [dutA, dutB, dutC, dutT, dutE, if_pos hk]
  obtain ⟨⟨oa, ob, oc⟩, ou⟩ := hk
  have fw : max (max a b) c - min (min a b) c = wide a b c := rfl
  rw [fw]
  refine ⟨fun _ => ?_, fun hn => by simp only [isB] at oa; omega⟩
  refine ⟨fun hn => by simp only [isB] at oa; omega, fun _ => ?_⟩
  refine ⟨fun _ => ?_, fun hn => by simp only [isB] at ob; omega⟩
  refine ⟨fun hn => by simp only [isB] at ob; omega, fun _ => ?_⟩
  refine ⟨fun _ => ?_, fun hn => by simp only [isB] at oc; omega⟩
  refine ⟨fun hn => by simp only [isB] at oc; omega, fun _ => ?_⟩
  refine ⟨fun _ => ?_, fun hn => by simp only [isU] at ou; omega⟩
  refine ⟨fun hn => by simp only [isU] at ou; omega, fun _ => ?_⟩
  refine ⟨fun hc => ?_, fun hc => ?_⟩
  · have c1 := cut_bd (w := wide a b c) oa ou (by omega)
    have c2 := cut_bd (w := wide a b c) ob ou (by omega)
    have c3 := cut_bd (w := wide a b c) oc ou (by omega)
    simp only [dutV, if_pos (show wide a b c > u from hc), dut]
    generalize a * u / wide a b c = A at *
    generalize b * u / wide a b c = B at *
    generalize c * u / wide a b c = C at *
    unfold isU at ou
    rw [wrap_i64 (n := (2 * A - max (max A B) C - min (min A B) C + u) * 65536) (by omega) (by omega), wrap_i64 (n := (2 * B - max (max A B) C - min (min A B) C + u) * 65536) (by omega) (by omega), wrap_i64 (n := (2 * C - max (max A B) C - min (min A B) C + u) * 65536) (by omega) (by omega)]
    refine ⟨?_, by rw [gtrB]; simp [hc]⟩; first | trivial | exact ⟨rfl, rfl, rfl⟩
  · simp only [dutV, if_neg (show ¬ wide a b c > u by omega), dut]
    refine ⟨?_, by rw [gtrB]; simp; omega⟩; first | trivial | exact ⟨rfl, rfl, rfl⟩
def du22T : VT := (.ite (.cmp .geq (.var 0) (.lit (-1073741824))) (.ite (.neg (.cmp .leq (.var 0) (.lit 1073741824))) (.leaf (.tuple [(.agg [(.int .i64 (.lit 0)), (.int .i64 (.lit 0)), (.int .i64 (.lit 0))]), (.bool (.lit false)), (.int .i64 (.lit 3))])) (.ite (.cmp .geq (.var 1) (.lit (-1073741824))) (.ite (.neg (.cmp .leq (.var 1) (.lit 1073741824))) (.leaf (.tuple [(.agg [(.int .i64 (.lit 0)), (.int .i64 (.lit 0)), (.int .i64 (.lit 0))]), (.bool (.lit false)), (.int .i64 (.lit 3))])) (.ite (.cmp .geq (.var 2) (.lit (-1073741824))) (.ite (.neg (.cmp .leq (.var 2) (.lit 1073741824))) (.leaf (.tuple [(.agg [(.int .i64 (.lit 0)), (.int .i64 (.lit 0)), (.int .i64 (.lit 0))]), (.bool (.lit false)), (.int .i64 (.lit 3))])) (.ite (.cmp .geq (.var 3) (.lit 1)) (.ite (.neg (.cmp .leq (.var 3) (.lit 1073741824))) (.leaf (.tuple [(.agg [(.int .i64 (.lit 0)), (.int .i64 (.lit 0)), (.int .i64 (.lit 0))]), (.bool (.lit false)), (.int .i64 (.lit 3))])) (.ite (.cmp .gtr (.op .sub (.op .mx (.op .mx (.var 0) (.var 1)) (.var 2)) (.op .mn (.op .mn (.var 0) (.var 1)) (.var 2))) (.var 3)) (.leaf (.tuple [(.agg [(.int .i64 (.app 3 [(.app 1 [(.bin .mul .i64 (.op .add (.op .sub (.op .sub (.op .mul (.lit 2) (.app 1 [(.op .mul (.var 0) (.var 3)), (.op .sub (.op .mx (.op .mx (.var 0) (.var 1)) (.var 2)) (.op .mn (.op .mn (.var 0) (.var 1)) (.var 2)))])) (.op .mx (.op .mx (.app 1 [(.op .mul (.var 0) (.var 3)), (.op .sub (.op .mx (.op .mx (.var 0) (.var 1)) (.var 2)) (.op .mn (.op .mn (.var 0) (.var 1)) (.var 2)))]) (.app 1 [(.op .mul (.var 1) (.var 3)), (.op .sub (.op .mx (.op .mx (.var 0) (.var 1)) (.var 2)) (.op .mn (.op .mn (.var 0) (.var 1)) (.var 2)))])) (.app 1 [(.op .mul (.var 2) (.var 3)), (.op .sub (.op .mx (.op .mx (.var 0) (.var 1)) (.var 2)) (.op .mn (.op .mn (.var 0) (.var 1)) (.var 2)))]))) (.op .mn (.op .mn (.app 1 [(.op .mul (.var 0) (.var 3)), (.op .sub (.op .mx (.op .mx (.var 0) (.var 1)) (.var 2)) (.op .mn (.op .mn (.var 0) (.var 1)) (.var 2)))]) (.app 1 [(.op .mul (.var 1) (.var 3)), (.op .sub (.op .mx (.op .mx (.var 0) (.var 1)) (.var 2)) (.op .mn (.op .mn (.var 0) (.var 1)) (.var 2)))])) (.app 1 [(.op .mul (.var 2) (.var 3)), (.op .sub (.op .mx (.op .mx (.var 0) (.var 1)) (.var 2)) (.op .mn (.op .mn (.var 0) (.var 1)) (.var 2)))]))) (.var 3)) (.lit 65536)), (.op .mul (.lit 2) (.var 3))]), (.lit 0), (.lit 65536)])), (.int .i64 (.app 3 [(.app 1 [(.bin .mul .i64 (.op .add (.op .sub (.op .sub (.op .mul (.lit 2) (.app 1 [(.op .mul (.var 1) (.var 3)), (.op .sub (.op .mx (.op .mx (.var 0) (.var 1)) (.var 2)) (.op .mn (.op .mn (.var 0) (.var 1)) (.var 2)))])) (.op .mx (.op .mx (.app 1 [(.op .mul (.var 0) (.var 3)), (.op .sub (.op .mx (.op .mx (.var 0) (.var 1)) (.var 2)) (.op .mn (.op .mn (.var 0) (.var 1)) (.var 2)))]) (.app 1 [(.op .mul (.var 1) (.var 3)), (.op .sub (.op .mx (.op .mx (.var 0) (.var 1)) (.var 2)) (.op .mn (.op .mn (.var 0) (.var 1)) (.var 2)))])) (.app 1 [(.op .mul (.var 2) (.var 3)), (.op .sub (.op .mx (.op .mx (.var 0) (.var 1)) (.var 2)) (.op .mn (.op .mn (.var 0) (.var 1)) (.var 2)))]))) (.op .mn (.op .mn (.app 1 [(.op .mul (.var 0) (.var 3)), (.op .sub (.op .mx (.op .mx (.var 0) (.var 1)) (.var 2)) (.op .mn (.op .mn (.var 0) (.var 1)) (.var 2)))]) (.app 1 [(.op .mul (.var 1) (.var 3)), (.op .sub (.op .mx (.op .mx (.var 0) (.var 1)) (.var 2)) (.op .mn (.op .mn (.var 0) (.var 1)) (.var 2)))])) (.app 1 [(.op .mul (.var 2) (.var 3)), (.op .sub (.op .mx (.op .mx (.var 0) (.var 1)) (.var 2)) (.op .mn (.op .mn (.var 0) (.var 1)) (.var 2)))]))) (.var 3)) (.lit 65536)), (.op .mul (.lit 2) (.var 3))]), (.lit 0), (.lit 65536)])), (.int .i64 (.app 3 [(.app 1 [(.bin .mul .i64 (.op .add (.op .sub (.op .sub (.op .mul (.lit 2) (.app 1 [(.op .mul (.var 2) (.var 3)), (.op .sub (.op .mx (.op .mx (.var 0) (.var 1)) (.var 2)) (.op .mn (.op .mn (.var 0) (.var 1)) (.var 2)))])) (.op .mx (.op .mx (.app 1 [(.op .mul (.var 0) (.var 3)), (.op .sub (.op .mx (.op .mx (.var 0) (.var 1)) (.var 2)) (.op .mn (.op .mn (.var 0) (.var 1)) (.var 2)))]) (.app 1 [(.op .mul (.var 1) (.var 3)), (.op .sub (.op .mx (.op .mx (.var 0) (.var 1)) (.var 2)) (.op .mn (.op .mn (.var 0) (.var 1)) (.var 2)))])) (.app 1 [(.op .mul (.var 2) (.var 3)), (.op .sub (.op .mx (.op .mx (.var 0) (.var 1)) (.var 2)) (.op .mn (.op .mn (.var 0) (.var 1)) (.var 2)))]))) (.op .mn (.op .mn (.app 1 [(.op .mul (.var 0) (.var 3)), (.op .sub (.op .mx (.op .mx (.var 0) (.var 1)) (.var 2)) (.op .mn (.op .mn (.var 0) (.var 1)) (.var 2)))]) (.app 1 [(.op .mul (.var 1) (.var 3)), (.op .sub (.op .mx (.op .mx (.var 0) (.var 1)) (.var 2)) (.op .mn (.op .mn (.var 0) (.var 1)) (.var 2)))])) (.app 1 [(.op .mul (.var 2) (.var 3)), (.op .sub (.op .mx (.op .mx (.var 0) (.var 1)) (.var 2)) (.op .mn (.op .mn (.var 0) (.var 1)) (.var 2)))]))) (.var 3)) (.lit 65536)), (.op .mul (.lit 2) (.var 3))]), (.lit 0), (.lit 65536)]))]), (.bool (.cmp .gtr (.op .sub (.op .mx (.op .mx (.var 0) (.var 1)) (.var 2)) (.op .mn (.op .mn (.var 0) (.var 1)) (.var 2))) (.var 3))), (.int .i64 (.lit 0))])) (.leaf (.tuple [(.agg [(.int .i64 (.app 3 [(.app 1 [(.op .mul (.op .add (.op .sub (.op .sub (.op .mul (.lit 2) (.var 0)) (.op .mx (.op .mx (.var 0) (.var 1)) (.var 2))) (.op .mn (.op .mn (.var 0) (.var 1)) (.var 2))) (.var 3)) (.lit 65536)), (.op .mul (.lit 2) (.var 3))]), (.lit 0), (.lit 65536)])), (.int .i64 (.app 3 [(.app 1 [(.op .mul (.op .add (.op .sub (.op .sub (.op .mul (.lit 2) (.var 1)) (.op .mx (.op .mx (.var 0) (.var 1)) (.var 2))) (.op .mn (.op .mn (.var 0) (.var 1)) (.var 2))) (.var 3)) (.lit 65536)), (.op .mul (.lit 2) (.var 3))]), (.lit 0), (.lit 65536)])), (.int .i64 (.app 3 [(.app 1 [(.op .mul (.op .add (.op .sub (.op .sub (.op .mul (.lit 2) (.var 2)) (.op .mx (.op .mx (.var 0) (.var 1)) (.var 2))) (.op .mn (.op .mn (.var 0) (.var 1)) (.var 2))) (.var 3)) (.lit 65536)), (.op .mul (.lit 2) (.var 3))]), (.lit 0), (.lit 65536)]))]), (.bool (.cmp .gtr (.op .sub (.op .mx (.op .mx (.var 0) (.var 1)) (.var 2)) (.op .mn (.op .mn (.var 0) (.var 1)) (.var 2))) (.var 3))), (.int .i64 (.lit 0))])))) (.leaf (.tuple [(.agg [(.int .i64 (.lit 0)), (.int .i64 (.lit 0)), (.int .i64 (.lit 0))]), (.bool (.lit false)), (.int .i64 (.lit 3))])))) (.leaf (.tuple [(.agg [(.int .i64 (.lit 0)), (.int .i64 (.lit 0)), (.int .i64 (.lit 0))]), (.bool (.lit false)), (.int .i64 (.lit 3))])))) (.leaf (.tuple [(.agg [(.int .i64 (.lit 0)), (.int .i64 (.lit 0)), (.int .i64 (.lit 0))]), (.bool (.lit false)), (.int .i64 (.lit 3))])))) (.leaf (.tuple [(.agg [(.int .i64 (.lit 0)), (.int .i64 (.lit 0)), (.int .i64 (.lit 0))]), (.bool (.lit false)), (.int .i64 (.lit 3))])))
theorem du22_ok {fn : Nat → List Int → Int} (h : GoodF fn) : (duFC 22).OK Try.prog fn := by
  refine FC.ok_num (X := Xb) (d := 0) (n := 100000) (t := du22T) mixD (Xb_ok h) rfl (by kernel_rfl) (by kernel_rfl) fun r hw hpre => ?_
  obtain ⟨xs0, r0, rfl, w0, _, hw0⟩ := hw
  obtain ⟨xs1, r1, rfl, w1, _, hw1⟩ := hw0
  obtain rfl : r1 = [] := hw1
  obtain ⟨a, b, c, rfl, ha, hb, hc⟩ := wfI3 w0
  obtain ⟨u, rfl, hu⟩ := wfI1 w1
  refine ⟨by simp [duFC], by
    intro p hm
    simp only [duFC, List.mem_cons, List.not_mem_nil, or_false] at hm
    rcases hm with rfl | rfl | rfl
    all_goals simp only [den_lit, den_var, den_ite, den_cmp, den_cmpB, den_tst, den_tstF, den_negT, den_negF, den_andT, den_andF, lssT, leqT, gtrT, geqT, eqlT, neqT, lssF, leqF, gtrF, geqF, eqlF, neqF, den_app, den_nilL, den_consL, den_add, den_sub, den_mul, den_tdiv, den_tmod, den_mx, den_mn, den_blit, den_bin, binI, env_v, env_f, List.flatten_cons, List.flatten_nil, List.append_nil, List.cons_append, List.nil_append, List.getD_cons_zero, List.getD_cons_succ, List.getD_nil, q1 h, q2 h, q3 h, q20 h, q21 h, q22 h, q23 h, q24 h]
    · unfold dutA; split
      · exact dut_bd _ _ _ _ _
      · omega
    · unfold dutB; split
      · exact dut_bd _ _ _ _ _
      · omega
    · unfold dutC; split
      · exact dut_bd _ _ _ _ _
      · omega
  , ?_⟩
  simp only [du22T, duFC, VT.holds, SV.eqv, SV.eqvL, tstB, den_lit, den_var, den_ite, den_cmp, den_cmpB, den_tst, den_tstF, den_negT, den_negF, den_andT, den_andF, lssT, leqT, gtrT, geqT, eqlT, neqT, lssF, leqF, gtrF, geqF, eqlF, neqF, den_app, den_nilL, den_consL, den_add, den_sub, den_mul, den_tdiv, den_tmod, den_mx, den_mn, den_blit, den_bin, binI, env_v, env_f, List.flatten_cons, List.flatten_nil, List.append_nil, List.cons_append, List.nil_append, List.getD_cons_zero, List.getD_cons_succ, List.getD_nil, q1 h, q2 h, q3 h, q20 h, q21 h, q22 h, q23 h, q24 h, true_and, and_true]
  by_cases hk : okD a b c u
  case neg =>
    simp only [dutA, dutB, dutC, dutT, dutE, if_neg hk]
    simp only [okT, okR, okP, okD, isB, isA, isU] at hk
    repeat' (first | apply And.intro | intro _)
    all_goals first | trivial | rfl | omega
  simp only [dutA, dutB, dutC, dutT, dutE, if_pos hk]
  obtain ⟨⟨oa, ob, oc⟩, ou⟩ := hk
  have fw : max (max a b) c - min (min a b) c = wide a b c := rfl
  rw [fw]
  refine ⟨fun _ => ?_, fun hn => by simp only [isB] at oa; omega⟩
  refine ⟨fun hn => by simp only [isB] at oa; omega, fun _ => ?_⟩
  refine ⟨fun _ => ?_, fun hn => by simp only [isB] at ob; omega⟩
  refine ⟨fun hn => by simp only [isB] at ob; omega, fun _ => ?_⟩
  refine ⟨fun _ => ?_, fun hn => by simp only [isB] at oc; omega⟩
  refine ⟨fun hn => by simp only [isB] at oc; omega, fun _ => ?_⟩
  refine ⟨fun _ => ?_, fun hn => by simp only [isU] at ou; omega⟩
  refine ⟨fun hn => by simp only [isU] at ou; omega, fun _ => ?_⟩
  refine ⟨fun hc => ?_, fun hc => ?_⟩
  · have c1 := cut_bd (w := wide a b c) oa ou (by omega)
    have c2 := cut_bd (w := wide a b c) ob ou (by omega)
    have c3 := cut_bd (w := wide a b c) oc ou (by omega)
    simp only [dutV, if_pos (show wide a b c > u from hc), dut]
    generalize a * u / wide a b c = A at *
    generalize b * u / wide a b c = B at *
    generalize c * u / wide a b c = C at *
    unfold isU at ou
    rw [wrap_i64 (n := (2 * A - max (max A B) C - min (min A B) C + u) * 65536) (by omega) (by omega), wrap_i64 (n := (2 * B - max (max A B) C - min (min A B) C + u) * 65536) (by omega) (by omega), wrap_i64 (n := (2 * C - max (max A B) C - min (min A B) C + u) * 65536) (by omega) (by omega)]
    refine ⟨?_, by rw [gtrB]; simp [hc]⟩; first | trivial | exact ⟨rfl, rfl, rfl⟩
  · simp only [dutV, if_neg (show ¬ wide a b c > u by omega), dut]
    refine ⟨?_, by rw [gtrB]; simp; omega⟩; first | trivial | exact ⟨rfl, rfl, rfl⟩
def Xt : Par := ((sinFC 9).par ((sinFC 11).par ((cosFC 10).par ((cosFC 12).par ((twoFC 13).par ((twoFC 14).par ((ttFC 15).par ((ttFC 16).par ((tbFC 17).par ((tbFC 18).par ((phFC 19).par ((phFC 20).par ((duFC 21).par ((duFC 22).par Xb))))))))))))))
theorem Xt_ok {fn : Nat → List Int → Int} (h : GoodF fn) : ParOK Try.prog fn Xt := (FC.parOK (sin9_ok h) rfl (FC.parOK (sin11_ok h) rfl (FC.parOK (cos10_ok h) rfl (FC.parOK (cos12_ok h) rfl (FC.parOK (two13_ok h) rfl (FC.parOK (two14_ok h) rfl (FC.parOK (tt15_ok h) rfl (FC.parOK (tt16_ok h) rfl (FC.parOK (tb17_ok h) rfl (FC.parOK (tb18_ok h) rfl (FC.parOK (ph19_ok h) rfl (FC.parOK (ph20_ok h) rfl (FC.parOK (du21_ok h) rfl (FC.parOK (du22_ok h) rfl (Xb_ok h)))))))))))))))
/-- the examples that each law ends with -/
def knFC : FC := ⟨23, [], .bool (.lit true), [], [], []⟩
theorem kn_ok {fn : Nat → List Int → Int} (h : GoodF fn) : knFC.OK Try.prog fn := by
  refine FC.ok_eqv (X := noPar) (d := 1) (n := 100000) (t := .leaf (.bool (.lit true))) mixD (nop_ok h) rfl (by kernel_rfl) (by kernel_rfl) fun r hw _ => ⟨by simp [knFC], by simp [knFC], ?_⟩
  exact rfl
def Xk : Par := knFC.par Xt
theorem Xk_ok {fn : Nat → List Int → Int} (h : GoodF fn) : ParOK Try.prog fn Xk := FC.parOK (kn_ok h) rfl (Xt_ok h)
end Go.Proofs.Ytmcnbgngojgfcaa
