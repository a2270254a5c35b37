/- The contracts of the exported functions: weakening, greatest current, inner voltages, room; the program's and the reference's. -/
import Derived.Test.YtgbfaomlmpfbfaaWe
namespace Go.Proofs.Ytgbfaomlmpfbfaa
open Go Go.SX Go.RowKit WK
set_option linter.unusedVariables false
set_option linter.unusedSimpArgs false
set_option maxRecDepth 100000
def boP (n : Nat) : List BE := [.cmp .leq (.var n) (.lit 2000)]
def wkFC (f : Nat) : FC := ⟨f, [sM, sI, sI, sI, sI], .tuple [.int .i64 (.app 40 [.var 0, .var 1, .var 2, .var 3, .var 4, .var 5, .var 6, .var 7, .var 8, .var 9, .var 10, .var 11, .var 12, .var 13]), .int .i64 (.app 41 [.var 0, .var 1, .var 2, .var 3, .var 4, .var 5, .var 6, .var 7, .var 8, .var 9, .var 10, .var 11, .var 12, .var 13])], boP 13, [], [(.app 40 [.var 0, .var 1, .var 2, .var 3, .var 4, .var 5, .var 6, .var 7, .var 8, .var 9, .var 10, .var 11, .var 12, .var 13], -2000, 0)]⟩
def skFC (f : Nat) : FC := ⟨f, [sM, sI, sI, sI], .tuple [.int .i64 (.app 42 [.var 0, .var 1, .var 2, .var 3, .var 4, .var 5, .var 6, .var 7, .var 8, .var 9, .var 10, .var 11, .var 12]), .int .i64 (.app 43 [.var 0, .var 1, .var 2, .var 3, .var 4, .var 5, .var 6, .var 7, .var 8, .var 9, .var 10, .var 11, .var 12]), .int .i64 (.app 44 [.var 0, .var 1, .var 2, .var 3, .var 4, .var 5, .var 6, .var 7, .var 8, .var 9, .var 10, .var 11, .var 12])], boP 12, [], [(.app 42 [.var 0, .var 1, .var 2, .var 3, .var 4, .var 5, .var 6, .var 7, .var 8, .var 9, .var 10, .var 11, .var 12], 0, 2000), (.app 43 [.var 0, .var 1, .var 2, .var 3, .var 4, .var 5, .var 6, .var 7, .var 8, .var 9, .var 10, .var 11, .var 12], -2000, 0)]⟩
def inFC : FC := ⟨31, [sM, sI, sI, sI], .tuple [.int .i64 (.app 45 [.var 0, .var 1, .var 2, .var 3, .var 4, .var 5, .var 6, .var 7, .var 8, .var 9, .var 10, .var 11, .var 12]), .int .i64 (.app 46 [.var 0, .var 1, .var 2, .var 3, .var 4, .var 5, .var 6, .var 7, .var 8, .var 9, .var 10, .var 11, .var 12]), .int .i64 (.app 47 [.var 0, .var 1, .var 2, .var 3, .var 4, .var 5, .var 6, .var 7, .var 8, .var 9, .var 10, .var 11, .var 12])], [], [], []⟩
def roFC : FC := ⟨10, [sI], .tuple [.int .i64 (.app 48 [.var 0]), .int .i64 (.app 49 [.var 0])], [], [], [(.app 48 [.var 0], 0, 1073741824)]⟩
def wdT : VT := (.ite (.cmp .leq (.lit 0) (.var 0)) (.ite (.neg (.cmp .leq (.var 0) (.lit 1048576))) (.leaf (.tuple [(.int .i64 (.lit 0)), (.int .i64 (.lit 2))])) (.ite (.cmp .leq (.lit 1) (.var 1)) (.ite (.neg (.cmp .leq (.var 1) (.lit 4194304))) (.leaf (.tuple [(.int .i64 (.lit 0)), (.int .i64 (.lit 2))])) (.ite (.cmp .leq (.lit 1) (.var 2)) (.ite (.neg (.cmp .leq (.var 2) (.lit 4194304))) (.leaf (.tuple [(.int .i64 (.lit 0)), (.int .i64 (.lit 2))])) (.ite (.cmp .leq (.lit 0) (.var 3)) (.ite (.neg (.cmp .leq (.var 3) (.lit 4194304))) (.leaf (.tuple [(.int .i64 (.lit 0)), (.int .i64 (.lit 2))])) (.ite (.cmp .leq (.lit 1) (.var 4)) (.ite (.neg (.cmp .leq (.var 4) (.lit 16))) (.leaf (.tuple [(.int .i64 (.lit 0)), (.int .i64 (.lit 2))])) (.ite (.cmp .leq (.lit 1) (.var 5)) (.ite (.neg (.cmp .leq (.var 5) (.lit 1000))) (.leaf (.tuple [(.int .i64 (.lit 0)), (.int .i64 (.lit 2))])) (.ite (.cmp .leq (.lit 0) (.var 6)) (.ite (.neg (.cmp .leq (.var 6) (.lit 1048576))) (.leaf (.tuple [(.int .i64 (.lit 0)), (.int .i64 (.lit 2))])) (.ite (.cmp .leq (.lit 0) (.var 7)) (.ite (.neg (.cmp .leq (.var 7) (.lit 1048576))) (.leaf (.tuple [(.int .i64 (.lit 0)), (.int .i64 (.lit 2))])) (.ite (.cmp .leq (.lit 1) (.var 8)) (.ite (.neg (.cmp .leq (.var 8) (.lit 1048576))) (.leaf (.tuple [(.int .i64 (.lit 0)), (.int .i64 (.lit 2))])) (.ite (.cmp .leq (.lit 0) (.var 9)) (.ite (.neg (.cmp .leq (.var 9) (.lit 16384))) (.leaf (.tuple [(.int .i64 (.lit 0)), (.int .i64 (.lit 2))])) (.ite (.cmp .leq (.lit (-1048576)) (.var 10)) (.ite (.neg (.cmp .leq (.var 10) (.lit 1048576))) (.leaf (.tuple [(.int .i64 (.lit 0)), (.int .i64 (.lit 3))])) (.ite (.cmp .leq (.lit (-16384)) (.var 11)) (.ite (.neg (.cmp .leq (.var 11) (.lit 16384))) (.leaf (.tuple [(.int .i64 (.lit 0)), (.int .i64 (.lit 3))])) (.ite (.cmp .leq (.lit 1) (.var 12)) (.ite (.neg (.cmp .leq (.var 12) (.lit 1073741824))) (.leaf (.tuple [(.int .i64 (.lit 0)), (.int .i64 (.lit 3))])) (.ite (.cmp .leq (.lit 0) (.var 13)) (.need (.cmp .geq (.app 1 [(.op .mul (.var 12) (.lit 26755)), (.lit 65536)]) (.lit 0)) (.ite (.neg (.tst (.app 6 [(.var 0), (.var 1), (.var 2), (.var 3), (.var 11), (.app 1 [(.op .mul (.var 12) (.lit 26755)), (.lit 65536)]), (.var 13), (.var 10), (.var 10)]))) (.leaf (.tuple [(.int .i64 (.lit 0)), (.int .i64 (.lit 17))])) (.leaf (.tuple [(.int .i64 (.app 5 [(.var 0), (.var 1), (.var 2), (.var 3), (.var 11), (.app 1 [(.op .mul (.var 12) (.lit 26755)), (.lit 65536)]), (.var 13), (.var 10), (.var 10)])), (.int .i64 (.lit 0))])))) (.leaf (.tuple [(.int .i64 (.lit 0)), (.int .i64 (.lit 3))])))) (.leaf (.tuple [(.int .i64 (.lit 0)), (.int .i64 (.lit 3))])))) (.leaf (.tuple [(.int .i64 (.lit 0)), (.int .i64 (.lit 3))])))) (.leaf (.tuple [(.int .i64 (.lit 0)), (.int .i64 (.lit 3))])))) (.leaf (.tuple [(.int .i64 (.lit 0)), (.int .i64 (.lit 2))])))) (.leaf (.tuple [(.int .i64 (.lit 0)), (.int .i64 (.lit 2))])))) (.leaf (.tuple [(.int .i64 (.lit 0)), (.int .i64 (.lit 2))])))) (.leaf (.tuple [(.int .i64 (.lit 0)), (.int .i64 (.lit 2))])))) (.leaf (.tuple [(.int .i64 (.lit 0)), (.int .i64 (.lit 2))])))) (.leaf (.tuple [(.int .i64 (.lit 0)), (.int .i64 (.lit 2))])))) (.leaf (.tuple [(.int .i64 (.lit 0)), (.int .i64 (.lit 2))])))) (.leaf (.tuple [(.int .i64 (.lit 0)), (.int .i64 (.lit 2))])))) (.leaf (.tuple [(.int .i64 (.lit 0)), (.int .i64 (.lit 2))])))) (.leaf (.tuple [(.int .i64 (.lit 0)), (.int .i64 (.lit 2))])))
theorem wd_ok {fn : Nat → List Int → Int} (h : GoodF fn) : (wkFC 6).OK Try.prog fn := by
  refine FC.ok_num (X := X4) (d := 0) (n := 100000) (t := wdT) mixD (X4_ok h) rfl (by kernel_rfl) (by kernel_rfl) fun r hw hpre => ?_
  obtain ⟨xs0, r0, rfl, w0, _, hw0⟩ := hw
  obtain ⟨xs1, r1, rfl, w1, _, hw1⟩ := hw0
  obtain ⟨xs2, r2, rfl, w2, _, hw2⟩ := hw1
  obtain ⟨xs3, r3, rfl, w3, _, hw3⟩ := hw2
  obtain ⟨xs4, r4, rfl, w4, _, hw4⟩ := hw3
  obtain rfl : r4 = [] := hw4
  obtain ⟨R, K, L, F, c, d, e, f, g, i, rfl, hR, hK, hL, hF, hc, hd, he, hf, hg, hi⟩ := wfI10 w0
  obtain ⟨q, rfl, hq⟩ := wfI1 w1
  obtain ⟨w, rfl, hw⟩ := wfI1 w2
  obtain ⟨u, rfl, hu⟩ := wfI1 w3
  obtain ⟨b, rfl, hb⟩ := wfI1 w4
  clear w0 w1 w2 w3 w4
  have hb := hpre _ (List.mem_singleton.2 rfl)
  simp only [den_lit, den_var, den_ite, den_cmp, den_cmpB, den_tst, den_tstF, den_negT, den_negF, den_andT, den_andF, lssT, leqT, gtrT, geqT, eqlT, neqT, lssF, leqF, gtrF, geqF, eqlF, neqF, den_app, den_nilL, den_consL, den_add, den_sub, den_mul, den_tdiv, den_tmod, den_mx, den_mn, den_blit, den_bin, binI, env_v, env_f, List.flatten_cons, List.flatten_nil, List.append_nil, List.cons_append, List.nil_append, List.getD_cons_zero, List.getD_cons_succ, List.getD_nil] at hb
  clear hpre
  refine ⟨by simp [wkFC], fun x hm => by
    simp only [wkFC, List.mem_singleton] at hm
    subst hm
    simp only [den_lit, den_var, den_ite, den_cmp, den_cmpB, den_tst, den_tstF, den_negT, den_negF, den_andT, den_andF, lssT, leqT, gtrT, geqT, eqlT, neqT, lssF, leqF, gtrF, geqF, eqlF, neqF, den_app, den_nilL, den_consL, den_add, den_sub, den_mul, den_tdiv, den_tmod, den_mx, den_mn, den_blit, den_bin, binI, env_v, env_f, List.flatten_cons, List.flatten_nil, List.append_nil, List.cons_append, List.nil_append, List.getD_cons_zero, List.getD_cons_succ, List.getD_nil, q40 h]
    unfold weakV
    split
    · split
      · rename_i h1 h2
        unfold okN okS at h2
        have := waZ_bd (R := R) (K := K) (L := L) (F := F) (w := w) (m := rm u) (b := b) (p := q) (q := q) (by omega)
        omega
      · omega
    · omega, ?_⟩
  simp only [wdT, wkFC, VT.holds, SV.eqv, SV.eqvL, den_lit, den_var, den_ite, den_cmp, den_cmpB, den_tst, den_tstF, den_negT, den_negF, den_andT, den_andF, lssT, leqT, gtrT, geqT, eqlT, neqT, lssF, leqF, gtrF, geqF, eqlF, neqF, den_app, den_nilL, den_consL, den_add, den_sub, den_mul, den_tdiv, den_tmod, den_mx, den_mn, den_blit, den_bin, binI, env_v, env_f, List.flatten_cons, List.flatten_nil, List.append_nil, List.cons_append, List.nil_append, List.getD_cons_zero, List.getD_cons_succ, List.getD_nil, q1 h, q5 h, q6 h, q40 h, q41 h, rm_def, true_and, and_true]
  by_cases hM : okM R K L F c d e f g i
  case neg =>
    simp only [weakV, weakE, if_neg hM]
    simp only [okM] at hM
    repeat' (first | apply And.intro | intro _)
    all_goals first | trivial | rfl | (exfalso; omega)
  simp only [weakV, weakE, if_pos hM]
  by_cases hN : okN q w u b
  case neg =>
    simp only [if_neg hN]
    simp only [okM, okN, okS, okI] at hM hN
    repeat' (first | apply And.intro | intro _)
    all_goals first | trivial | rfl | (exfalso; omega)
  simp only [if_pos hN]
  simp only [okM, okN, okS, okI] at hM hN
  have hm := rm_bd (u := u) (by omega) (by omega)
  have hz : waH R K L F w (rm u) b q q ≠ 0 → waZ R K L F w (rm u) b q q = waD R K L F w (rm u) b q q := fun z => if_pos (waH_iff.1 z)
  have hz0 : waH R K L F w (rm u) b q q = 0 → waZ R K L F w (rm u) b q q = 0 := fun z => if_neg (waH_no.1 z)
  generalize waZ R K L F w (rm u) b q q = y1 at *
  generalize waD R K L F w (rm u) b q q = y2 at *
  generalize waH R K L F w (rm u) b q q = y3 at *
  generalize rm u = y4 at *
  by_cases hy : y3 = 0
  · rw [if_pos hy]
    have := hz0 hy
    repeat' (first | apply And.intro | intro _)
    all_goals first | trivial | rfl | omega
  · rw [if_neg hy]
    have := hz hy
    repeat' (first | apply And.intro | intro _)
    all_goals first | trivial | rfl | omega
def wrT : VT := (.ite (.cmp .geq (.var 0) (.lit 0)) (.ite (.neg (.cmp .leq (.var 0) (.lit 1048576))) (.leaf (.tuple [(.int .i64 (.lit 0)), (.int .i64 (.lit 2))])) (.ite (.cmp .geq (.var 1) (.lit 1)) (.ite (.neg (.cmp .leq (.var 1) (.lit 4194304))) (.leaf (.tuple [(.int .i64 (.lit 0)), (.int .i64 (.lit 2))])) (.ite (.cmp .geq (.var 2) (.lit 1)) (.ite (.neg (.cmp .leq (.var 2) (.lit 4194304))) (.leaf (.tuple [(.int .i64 (.lit 0)), (.int .i64 (.lit 2))])) (.ite (.cmp .geq (.var 3) (.lit 0)) (.ite (.neg (.cmp .leq (.var 3) (.lit 4194304))) (.leaf (.tuple [(.int .i64 (.lit 0)), (.int .i64 (.lit 2))])) (.ite (.cmp .geq (.var 4) (.lit 1)) (.ite (.neg (.cmp .leq (.var 4) (.lit 16))) (.leaf (.tuple [(.int .i64 (.lit 0)), (.int .i64 (.lit 2))])) (.ite (.cmp .geq (.var 5) (.lit 1)) (.ite (.neg (.cmp .leq (.var 5) (.lit 1000))) (.leaf (.tuple [(.int .i64 (.lit 0)), (.int .i64 (.lit 2))])) (.ite (.cmp .geq (.var 6) (.lit 0)) (.ite (.neg (.cmp .leq (.var 6) (.lit 1048576))) (.leaf (.tuple [(.int .i64 (.lit 0)), (.int .i64 (.lit 2))])) (.ite (.cmp .geq (.var 7) (.lit 0)) (.ite (.neg (.cmp .leq (.var 7) (.lit 1048576))) (.leaf (.tuple [(.int .i64 (.lit 0)), (.int .i64 (.lit 2))])) (.ite (.cmp .geq (.var 8) (.lit 1)) (.ite (.neg (.cmp .leq (.var 8) (.lit 1048576))) (.leaf (.tuple [(.int .i64 (.lit 0)), (.int .i64 (.lit 2))])) (.ite (.cmp .geq (.var 9) (.lit 0)) (.ite (.neg (.cmp .leq (.var 9) (.lit 16384))) (.leaf (.tuple [(.int .i64 (.lit 0)), (.int .i64 (.lit 2))])) (.ite (.cmp .geq (.var 10) (.lit (-1048576))) (.ite (.neg (.cmp .leq (.var 10) (.lit 1048576))) (.leaf (.tuple [(.int .i64 (.lit 0)), (.int .i64 (.lit 3))])) (.ite (.cmp .geq (.var 11) (.lit (-16384))) (.ite (.neg (.cmp .leq (.var 11) (.lit 16384))) (.leaf (.tuple [(.int .i64 (.lit 0)), (.int .i64 (.lit 3))])) (.ite (.cmp .geq (.var 12) (.lit 1)) (.ite (.neg (.cmp .leq (.var 12) (.lit 1073741824))) (.leaf (.tuple [(.int .i64 (.lit 0)), (.int .i64 (.lit 3))])) (.ite (.cmp .geq (.var 13) (.lit 0)) (.need (.cmp .geq (.app 1 [(.op .mul (.var 12) (.lit 26755)), (.lit 65536)]) (.lit 0)) (.ite (.neg (.tst (.app 6 [(.var 0), (.var 1), (.var 2), (.var 3), (.var 11), (.app 1 [(.op .mul (.var 12) (.lit 26755)), (.lit 65536)]), (.var 13), (.var 10), (.var 10)]))) (.leaf (.tuple [(.int .i64 (.lit 0)), (.int .i64 (.lit 17))])) (.leaf (.tuple [(.int .i64 (.app 22 [(.var 0), (.var 1), (.var 2), (.var 3), (.var 11), (.app 1 [(.op .mul (.var 12) (.lit 26755)), (.lit 65536)]), (.var 13), (.var 10), (.var 10)])), (.int .i64 (.lit 0))])))) (.leaf (.tuple [(.int .i64 (.lit 0)), (.int .i64 (.lit 3))])))) (.leaf (.tuple [(.int .i64 (.lit 0)), (.int .i64 (.lit 3))])))) (.leaf (.tuple [(.int .i64 (.lit 0)), (.int .i64 (.lit 3))])))) (.leaf (.tuple [(.int .i64 (.lit 0)), (.int .i64 (.lit 3))])))) (.leaf (.tuple [(.int .i64 (.lit 0)), (.int .i64 (.lit 2))])))) (.leaf (.tuple [(.int .i64 (.lit 0)), (.int .i64 (.lit 2))])))) (.leaf (.tuple [(.int .i64 (.lit 0)), (.int .i64 (.lit 2))])))) (.leaf (.tuple [(.int .i64 (.lit 0)), (.int .i64 (.lit 2))])))) (.leaf (.tuple [(.int .i64 (.lit 0)), (.int .i64 (.lit 2))])))) (.leaf (.tuple [(.int .i64 (.lit 0)), (.int .i64 (.lit 2))])))) (.leaf (.tuple [(.int .i64 (.lit 0)), (.int .i64 (.lit 2))])))) (.leaf (.tuple [(.int .i64 (.lit 0)), (.int .i64 (.lit 2))])))) (.leaf (.tuple [(.int .i64 (.lit 0)), (.int .i64 (.lit 2))])))) (.leaf (.tuple [(.int .i64 (.lit 0)), (.int .i64 (.lit 2))])))
theorem wr_ok {fn : Nat → List Int → Int} (h : GoodF fn) : (wkFC 7).OK Try.prog fn := by
  refine FC.ok_num (X := X3) (d := 0) (n := 100000) (t := wrT) mixD (X3_ok h) rfl (by kernel_rfl) (by kernel_rfl) fun r hw hpre => ?_
  obtain ⟨xs0, r0, rfl, w0, _, hw0⟩ := hw
  obtain ⟨xs1, r1, rfl, w1, _, hw1⟩ := hw0
  obtain ⟨xs2, r2, rfl, w2, _, hw2⟩ := hw1
  obtain ⟨xs3, r3, rfl, w3, _, hw3⟩ := hw2
  obtain ⟨xs4, r4, rfl, w4, _, hw4⟩ := hw3
  obtain rfl : r4 = [] := hw4
  obtain ⟨R, K, L, F, c, d, e, f, g, i, rfl, hR, hK, hL, hF, hc, hd, he, hf, hg, hi⟩ := wfI10 w0
  obtain ⟨q, rfl, hq⟩ := wfI1 w1
  obtain ⟨w, rfl, hw⟩ := wfI1 w2
  obtain ⟨u, rfl, hu⟩ := wfI1 w3
  obtain ⟨b, rfl, hb⟩ := wfI1 w4
  clear w0 w1 w2 w3 w4
  have hb := hpre _ (List.mem_singleton.2 rfl)
  simp only [den_lit, den_var, den_ite, den_cmp, den_cmpB, den_tst, den_tstF, den_negT, den_negF, den_andT, den_andF, lssT, leqT, gtrT, geqT, eqlT, neqT, lssF, leqF, gtrF, geqF, eqlF, neqF, den_app, den_nilL, den_consL, den_add, den_sub, den_mul, den_tdiv, den_tmod, den_mx, den_mn, den_blit, den_bin, binI, env_v, env_f, List.flatten_cons, List.flatten_nil, List.append_nil, List.cons_append, List.nil_append, List.getD_cons_zero, List.getD_cons_succ, List.getD_nil] at hb
  clear hpre
  refine ⟨by simp [wkFC], fun x hm => by
    simp only [wkFC, List.mem_singleton] at hm
    subst hm
    simp only [den_lit, den_var, den_ite, den_cmp, den_cmpB, den_tst, den_tstF, den_negT, den_negF, den_andT, den_andF, lssT, leqT, gtrT, geqT, eqlT, neqT, lssF, leqF, gtrF, geqF, eqlF, neqF, den_app, den_nilL, den_consL, den_add, den_sub, den_mul, den_tdiv, den_tmod, den_mx, den_mn, den_blit, den_bin, binI, env_v, env_f, List.flatten_cons, List.flatten_nil, List.append_nil, List.cons_append, List.nil_append, List.getD_cons_zero, List.getD_cons_succ, List.getD_nil, q40 h]
    unfold weakV
    split
    · split
      · rename_i h1 h2
        unfold okN okS at h2
        have := waZ_bd (R := R) (K := K) (L := L) (F := F) (w := w) (m := rm u) (b := b) (p := q) (q := q) (by omega)
        omega
      · omega
    · omega, ?_⟩
  simp only [wrT, wkFC, VT.holds, SV.eqv, SV.eqvL, den_lit, den_var, den_ite, den_cmp, den_cmpB, den_tst, den_tstF, den_negT, den_negF, den_andT, den_andF, lssT, leqT, gtrT, geqT, eqlT, neqT, lssF, leqF, gtrF, geqF, eqlF, neqF, den_app, den_nilL, den_consL, den_add, den_sub, den_mul, den_tdiv, den_tmod, den_mx, den_mn, den_blit, den_bin, binI, env_v, env_f, List.flatten_cons, List.flatten_nil, List.append_nil, List.cons_append, List.nil_append, List.getD_cons_zero, List.getD_cons_succ, List.getD_nil, q1 h, q6 h, q22 h, q40 h, q41 h, rm_def, true_and, and_true]
  by_cases hM : okM R K L F c d e f g i
  case neg =>
    simp only [weakV, weakE, if_neg hM]
    simp only [okM] at hM
    repeat' (first | apply And.intro | intro _)
    all_goals first | trivial | rfl | (exfalso; omega)
  simp only [weakV, weakE, if_pos hM]
  by_cases hN : okN q w u b
  case neg =>
    simp only [if_neg hN]
    simp only [okM, okN, okS, okI] at hM hN
    repeat' (first | apply And.intro | intro _)
    all_goals first | trivial | rfl | (exfalso; omega)
  simp only [if_pos hN]
  simp only [okM, okN, okS, okI] at hM hN
  have hm := rm_bd (u := u) (by omega) (by omega)
  have hz : waH R K L F w (rm u) b q q ≠ 0 → waZ R K L F w (rm u) b q q = waD R K L F w (rm u) b q q := fun z => if_pos (waH_iff.1 z)
  have hz0 : waH R K L F w (rm u) b q q = 0 → waZ R K L F w (rm u) b q q = 0 := fun z => if_neg (waH_no.1 z)
  generalize waZ R K L F w (rm u) b q q = y1 at *
  generalize waD R K L F w (rm u) b q q = y2 at *
  generalize waH R K L F w (rm u) b q q = y3 at *
  generalize rm u = y4 at *
  by_cases hy : y3 = 0
  · rw [if_pos hy]
    have := hz0 hy
    repeat' (first | apply And.intro | intro _)
    all_goals first | trivial | rfl | omega
  · rw [if_neg hy]
    have := hz hy
    repeat' (first | apply And.intro | intro _)
    all_goals first | trivial | rfl | omega
def sdT : VT := (.ite (.cmp .leq (.lit 0) (.var 0)) (.ite (.neg (.cmp .leq (.var 0) (.lit 1048576))) (.leaf (.tuple [(.int .i64 (.lit 0)), (.int .i64 (.lit 0)), (.int .i64 (.lit 2))])) (.ite (.cmp .leq (.lit 1) (.var 1)) (.ite (.neg (.cmp .leq (.var 1) (.lit 4194304))) (.leaf (.tuple [(.int .i64 (.lit 0)), (.int .i64 (.lit 0)), (.int .i64 (.lit 2))])) (.ite (.cmp .leq (.lit 1) (.var 2)) (.ite (.neg (.cmp .leq (.var 2) (.lit 4194304))) (.leaf (.tuple [(.int .i64 (.lit 0)), (.int .i64 (.lit 0)), (.int .i64 (.lit 2))])) (.ite (.cmp .leq (.lit 0) (.var 3)) (.ite (.neg (.cmp .leq (.var 3) (.lit 4194304))) (.leaf (.tuple [(.int .i64 (.lit 0)), (.int .i64 (.lit 0)), (.int .i64 (.lit 2))])) (.ite (.cmp .leq (.lit 1) (.var 4)) (.ite (.neg (.cmp .leq (.var 4) (.lit 16))) (.leaf (.tuple [(.int .i64 (.lit 0)), (.int .i64 (.lit 0)), (.int .i64 (.lit 2))])) (.ite (.cmp .leq (.lit 1) (.var 5)) (.ite (.neg (.cmp .leq (.var 5) (.lit 1000))) (.leaf (.tuple [(.int .i64 (.lit 0)), (.int .i64 (.lit 0)), (.int .i64 (.lit 2))])) (.ite (.cmp .leq (.lit 0) (.var 6)) (.ite (.neg (.cmp .leq (.var 6) (.lit 1048576))) (.leaf (.tuple [(.int .i64 (.lit 0)), (.int .i64 (.lit 0)), (.int .i64 (.lit 2))])) (.ite (.cmp .leq (.lit 0) (.var 7)) (.ite (.neg (.cmp .leq (.var 7) (.lit 1048576))) (.leaf (.tuple [(.int .i64 (.lit 0)), (.int .i64 (.lit 0)), (.int .i64 (.lit 2))])) (.ite (.cmp .leq (.lit 1) (.var 8)) (.ite (.neg (.cmp .leq (.var 8) (.lit 1048576))) (.leaf (.tuple [(.int .i64 (.lit 0)), (.int .i64 (.lit 0)), (.int .i64 (.lit 2))])) (.ite (.cmp .leq (.lit 0) (.var 9)) (.ite (.neg (.cmp .leq (.var 9) (.lit 16384))) (.leaf (.tuple [(.int .i64 (.lit 0)), (.int .i64 (.lit 0)), (.int .i64 (.lit 2))])) (.ite (.cmp .leq (.lit (-16384)) (.var 10)) (.ite (.neg (.cmp .leq (.var 10) (.lit 16384))) (.leaf (.tuple [(.int .i64 (.lit 0)), (.int .i64 (.lit 0)), (.int .i64 (.lit 3))])) (.ite (.cmp .leq (.lit 1) (.var 11)) (.ite (.neg (.cmp .leq (.var 11) (.lit 1073741824))) (.leaf (.tuple [(.int .i64 (.lit 0)), (.int .i64 (.lit 0)), (.int .i64 (.lit 3))])) (.ite (.cmp .leq (.lit 0) (.var 12)) (.need (.cmp .geq (.app 1 [(.op .mul (.var 11) (.lit 26755)), (.lit 65536)]) (.lit 0)) (.ite (.neg (.tst (.app 9 [(.var 0), (.var 1), (.var 2), (.var 3), (.var 10), (.app 1 [(.op .mul (.var 11) (.lit 26755)), (.lit 65536)]), (.var 12), (.lit 0), (.var 12)]))) (.leaf (.tuple [(.int .i64 (.lit 0)), (.int .i64 (.lit 0)), (.int .i64 (.lit 17))])) (.leaf (.tuple [(.int .i64 (.app 7 [(.var 0), (.var 1), (.var 2), (.var 3), (.var 10), (.app 1 [(.op .mul (.var 11) (.lit 26755)), (.lit 65536)]), (.var 12), (.lit 0), (.var 12)])), (.int .i64 (.app 8 [(.var 0), (.var 1), (.var 2), (.var 3), (.var 10), (.app 1 [(.op .mul (.var 11) (.lit 26755)), (.lit 65536)]), (.var 12), (.lit 0), (.var 12)])), (.int .i64 (.lit 0))])))) (.leaf (.tuple [(.int .i64 (.lit 0)), (.int .i64 (.lit 0)), (.int .i64 (.lit 3))])))) (.leaf (.tuple [(.int .i64 (.lit 0)), (.int .i64 (.lit 0)), (.int .i64 (.lit 3))])))) (.leaf (.tuple [(.int .i64 (.lit 0)), (.int .i64 (.lit 0)), (.int .i64 (.lit 3))])))) (.leaf (.tuple [(.int .i64 (.lit 0)), (.int .i64 (.lit 0)), (.int .i64 (.lit 2))])))) (.leaf (.tuple [(.int .i64 (.lit 0)), (.int .i64 (.lit 0)), (.int .i64 (.lit 2))])))) (.leaf (.tuple [(.int .i64 (.lit 0)), (.int .i64 (.lit 0)), (.int .i64 (.lit 2))])))) (.leaf (.tuple [(.int .i64 (.lit 0)), (.int .i64 (.lit 0)), (.int .i64 (.lit 2))])))) (.leaf (.tuple [(.int .i64 (.lit 0)), (.int .i64 (.lit 0)), (.int .i64 (.lit 2))])))) (.leaf (.tuple [(.int .i64 (.lit 0)), (.int .i64 (.lit 0)), (.int .i64 (.lit 2))])))) (.leaf (.tuple [(.int .i64 (.lit 0)), (.int .i64 (.lit 0)), (.int .i64 (.lit 2))])))) (.leaf (.tuple [(.int .i64 (.lit 0)), (.int .i64 (.lit 0)), (.int .i64 (.lit 2))])))) (.leaf (.tuple [(.int .i64 (.lit 0)), (.int .i64 (.lit 0)), (.int .i64 (.lit 2))])))) (.leaf (.tuple [(.int .i64 (.lit 0)), (.int .i64 (.lit 0)), (.int .i64 (.lit 2))])))
theorem sd_ok {fn : Nat → List Int → Int} (h : GoodF fn) : (skFC 8).OK Try.prog fn := by
  refine FC.ok_num (X := X4) (d := 0) (n := 100000) (t := sdT) mixD (X4_ok h) rfl (by kernel_rfl) (by kernel_rfl) fun r hw hpre => ?_
  obtain ⟨xs0, r0, rfl, w0, _, hw0⟩ := hw
  obtain ⟨xs1, r1, rfl, w1, _, hw1⟩ := hw0
  obtain ⟨xs2, r2, rfl, w2, _, hw2⟩ := hw1
  obtain ⟨xs3, r3, rfl, w3, _, hw3⟩ := hw2
  obtain rfl : r3 = [] := hw3
  obtain ⟨R, K, L, F, c, d, e, f, g, i, rfl, hR, hK, hL, hF, hc, hd, he, hf, hg, hi⟩ := wfI10 w0
  obtain ⟨w, rfl, hw⟩ := wfI1 w1
  obtain ⟨u, rfl, hu⟩ := wfI1 w2
  obtain ⟨b, rfl, hb⟩ := wfI1 w3
  clear w0 w1 w2 w3
  have hb := hpre _ (List.mem_singleton.2 rfl)
  simp only [den_lit, den_var, den_ite, den_cmp, den_cmpB, den_tst, den_tstF, den_negT, den_negF, den_andT, den_andF, lssT, leqT, gtrT, geqT, eqlT, neqT, lssF, leqF, gtrF, geqF, eqlF, neqF, den_app, den_nilL, den_consL, den_add, den_sub, den_mul, den_tdiv, den_tmod, den_mx, den_mn, den_blit, den_bin, binI, env_v, env_f, List.flatten_cons, List.flatten_nil, List.append_nil, List.cons_append, List.nil_append, List.getD_cons_zero, List.getD_cons_succ, List.getD_nil] at hb
  clear hpre
  refine ⟨by simp [skFC], fun x hm => by
    have key : (0 ≤ strQ R K L F c d e f g i w u b ∧ strQ R K L F c d e f g i w u b ≤ 2000) ∧ (-2000 ≤ strD R K L F c d e f g i w u b ∧ strD R K L F c d e f g i w u b ≤ 0) := by
      unfold strQ strD
      split
      · split
        · rename_i h1 h2
          unfold okS at h2
          have := st_bd (R := R) (K := K) (L := L) (F := F) (w := w) (m := rm u) (b := b) (l := 0) (h := b) (by omega) (by omega) (by omega)
          omega
        · omega
      · omega
    simp only [skFC, List.mem_cons, List.not_mem_nil, or_false] at hm
    rcases hm with rfl | rfl <;> simp only [den_lit, den_var, den_ite, den_cmp, den_cmpB, den_tst, den_tstF, den_negT, den_negF, den_andT, den_andF, lssT, leqT, gtrT, geqT, eqlT, neqT, lssF, leqF, gtrF, geqF, eqlF, neqF, den_app, den_nilL, den_consL, den_add, den_sub, den_mul, den_tdiv, den_tmod, den_mx, den_mn, den_blit, den_bin, binI, env_v, env_f, List.flatten_cons, List.flatten_nil, List.append_nil, List.cons_append, List.nil_append, List.getD_cons_zero, List.getD_cons_succ, List.getD_nil, q42 h, q43 h] <;> omega, ?_⟩
  simp only [sdT, skFC, VT.holds, SV.eqv, SV.eqvL, den_lit, den_var, den_ite, den_cmp, den_cmpB, den_tst, den_tstF, den_negT, den_negF, den_andT, den_andF, lssT, leqT, gtrT, geqT, eqlT, neqT, lssF, leqF, gtrF, geqF, eqlF, neqF, den_app, den_nilL, den_consL, den_add, den_sub, den_mul, den_tdiv, den_tmod, den_mx, den_mn, den_blit, den_bin, binI, env_v, env_f, List.flatten_cons, List.flatten_nil, List.append_nil, List.cons_append, List.nil_append, List.getD_cons_zero, List.getD_cons_succ, List.getD_nil, q1 h, q7 h, q8 h, q9 h, q42 h, q43 h, q44 h, rm_def, true_and, and_true]
  by_cases hM : okM R K L F c d e f g i
  case neg =>
    simp only [strQ, strD, strE, if_neg hM]
    simp only [okM] at hM
    repeat' (first | apply And.intro | intro _)
    all_goals first | trivial | rfl | (exfalso; omega)
  simp only [strQ, strD, strE, if_pos hM]
  by_cases hN : okS w u b
  case neg =>
    simp only [if_neg hN]
    simp only [okM, okN, okS, okI] at hM hN
    repeat' (first | apply And.intro | intro _)
    all_goals first | trivial | rfl | (exfalso; omega)
  simp only [if_pos hN]
  simp only [okM, okN, okS, okI] at hM hN
  have hm := rm_bd (u := u) (by omega) (by omega)
  have hz : stH R K L F w (rm u) b 0 b = 0 → stQ R K L F w (rm u) b 0 b = 0 ∧ stD R K L F w (rm u) b 0 b = 0 := fun z => by
    cases e : top R K L F w (rm u) b 0 b with
    | none => exact (stH_none e).2
    | some x => exact absurd z (by rw [(stH_some e).1]; decide)
  have hB := st_bd (R := R) (K := K) (L := L) (F := F) (w := w) (m := rm u) (b := b) (l := 0) (h := b) (by omega) (by omega) (by omega)
  generalize stH R K L F w (rm u) b 0 b = y1 at *
  generalize stQ R K L F w (rm u) b 0 b = y2 at *
  generalize stD R K L F w (rm u) b 0 b = y3 at *
  generalize rm u = y4 at *
  by_cases hy : y1 = 0
  · rw [if_pos hy]
    have := hz hy
    repeat' (first | apply And.intro | intro _)
    all_goals first | trivial | rfl | omega
  · rw [if_neg hy]
    repeat' (first | apply And.intro | intro _)
    all_goals first | trivial | rfl | omega
def srT : VT := (.ite (.cmp .geq (.var 0) (.lit 0)) (.ite (.neg (.cmp .leq (.var 0) (.lit 1048576))) (.leaf (.tuple [(.int .i64 (.lit 0)), (.int .i64 (.lit 0)), (.int .i64 (.lit 2))])) (.ite (.cmp .geq (.var 1) (.lit 1)) (.ite (.neg (.cmp .leq (.var 1) (.lit 4194304))) (.leaf (.tuple [(.int .i64 (.lit 0)), (.int .i64 (.lit 0)), (.int .i64 (.lit 2))])) (.ite (.cmp .geq (.var 2) (.lit 1)) (.ite (.neg (.cmp .leq (.var 2) (.lit 4194304))) (.leaf (.tuple [(.int .i64 (.lit 0)), (.int .i64 (.lit 0)), (.int .i64 (.lit 2))])) (.ite (.cmp .geq (.var 3) (.lit 0)) (.ite (.neg (.cmp .leq (.var 3) (.lit 4194304))) (.leaf (.tuple [(.int .i64 (.lit 0)), (.int .i64 (.lit 0)), (.int .i64 (.lit 2))])) (.ite (.cmp .geq (.var 4) (.lit 1)) (.ite (.neg (.cmp .leq (.var 4) (.lit 16))) (.leaf (.tuple [(.int .i64 (.lit 0)), (.int .i64 (.lit 0)), (.int .i64 (.lit 2))])) (.ite (.cmp .geq (.var 5) (.lit 1)) (.ite (.neg (.cmp .leq (.var 5) (.lit 1000))) (.leaf (.tuple [(.int .i64 (.lit 0)), (.int .i64 (.lit 0)), (.int .i64 (.lit 2))])) (.ite (.cmp .geq (.var 6) (.lit 0)) (.ite (.neg (.cmp .leq (.var 6) (.lit 1048576))) (.leaf (.tuple [(.int .i64 (.lit 0)), (.int .i64 (.lit 0)), (.int .i64 (.lit 2))])) (.ite (.cmp .geq (.var 7) (.lit 0)) (.ite (.neg (.cmp .leq (.var 7) (.lit 1048576))) (.leaf (.tuple [(.int .i64 (.lit 0)), (.int .i64 (.lit 0)), (.int .i64 (.lit 2))])) (.ite (.cmp .geq (.var 8) (.lit 1)) (.ite (.neg (.cmp .leq (.var 8) (.lit 1048576))) (.leaf (.tuple [(.int .i64 (.lit 0)), (.int .i64 (.lit 0)), (.int .i64 (.lit 2))])) (.ite (.cmp .geq (.var 9) (.lit 0)) (.ite (.neg (.cmp .leq (.var 9) (.lit 16384))) (.leaf (.tuple [(.int .i64 (.lit 0)), (.int .i64 (.lit 0)), (.int .i64 (.lit 2))])) (.ite (.cmp .geq (.var 10) (.lit (-16384))) (.ite (.neg (.cmp .leq (.var 10) (.lit 16384))) (.leaf (.tuple [(.int .i64 (.lit 0)), (.int .i64 (.lit 0)), (.int .i64 (.lit 3))])) (.ite (.cmp .geq (.var 11) (.lit 1)) (.ite (.neg (.cmp .leq (.var 11) (.lit 1073741824))) (.leaf (.tuple [(.int .i64 (.lit 0)), (.int .i64 (.lit 0)), (.int .i64 (.lit 3))])) (.ite (.cmp .geq (.var 12) (.lit 0)) (.need (.cmp .geq (.app 1 [(.op .mul (.var 11) (.lit 26755)), (.lit 65536)]) (.lit 0)) (.need (.neg (.and (.tst (.app 9 [(.var 0), (.var 1), (.var 2), (.var 3), (.var 10), (.app 1 [(.op .mul (.var 11) (.lit 26755)), (.lit 65536)]), (.var 12), (.lit 0), (.var 12)])) (.cmp .lss (.var 12) (.app 7 [(.var 0), (.var 1), (.var 2), (.var 3), (.var 10), (.app 1 [(.op .mul (.var 11) (.lit 26755)), (.lit 65536)]), (.var 12), (.lit 0), (.var 12)])))) (.ite (.cmp .eql (.app 30 [(.var 12), (.var 0), (.var 1), (.var 2), (.var 3), (.var 10), (.app 1 [(.op .mul (.var 11) (.lit 26755)), (.lit 65536)]), (.var 12)]) (.lit 0)) (.leaf (.tuple [(.int .i64 (.lit 0)), (.int .i64 (.lit 0)), (.int .i64 (.lit 17))])) (.leaf (.tuple [(.int .i64 (.app 31 [(.var 12), (.var 0), (.var 1), (.var 2), (.var 3), (.var 10), (.app 1 [(.op .mul (.var 11) (.lit 26755)), (.lit 65536)]), (.var 12)])), (.int .i64 (.app 32 [(.var 12), (.var 0), (.var 1), (.var 2), (.var 3), (.var 10), (.app 1 [(.op .mul (.var 11) (.lit 26755)), (.lit 65536)]), (.var 12)])), (.int .i64 (.lit 0))]))))) (.leaf (.tuple [(.int .i64 (.lit 0)), (.int .i64 (.lit 0)), (.int .i64 (.lit 3))])))) (.leaf (.tuple [(.int .i64 (.lit 0)), (.int .i64 (.lit 0)), (.int .i64 (.lit 3))])))) (.leaf (.tuple [(.int .i64 (.lit 0)), (.int .i64 (.lit 0)), (.int .i64 (.lit 3))])))) (.leaf (.tuple [(.int .i64 (.lit 0)), (.int .i64 (.lit 0)), (.int .i64 (.lit 2))])))) (.leaf (.tuple [(.int .i64 (.lit 0)), (.int .i64 (.lit 0)), (.int .i64 (.lit 2))])))) (.leaf (.tuple [(.int .i64 (.lit 0)), (.int .i64 (.lit 0)), (.int .i64 (.lit 2))])))) (.leaf (.tuple [(.int .i64 (.lit 0)), (.int .i64 (.lit 0)), (.int .i64 (.lit 2))])))) (.leaf (.tuple [(.int .i64 (.lit 0)), (.int .i64 (.lit 0)), (.int .i64 (.lit 2))])))) (.leaf (.tuple [(.int .i64 (.lit 0)), (.int .i64 (.lit 0)), (.int .i64 (.lit 2))])))) (.leaf (.tuple [(.int .i64 (.lit 0)), (.int .i64 (.lit 0)), (.int .i64 (.lit 2))])))) (.leaf (.tuple [(.int .i64 (.lit 0)), (.int .i64 (.lit 0)), (.int .i64 (.lit 2))])))) (.leaf (.tuple [(.int .i64 (.lit 0)), (.int .i64 (.lit 0)), (.int .i64 (.lit 2))])))) (.leaf (.tuple [(.int .i64 (.lit 0)), (.int .i64 (.lit 0)), (.int .i64 (.lit 2))])))
theorem sr_ok {fn : Nat → List Int → Int} (h : GoodF fn) : (skFC 9).OK Try.prog fn := by
  refine FC.ok_num (X := X5) (d := 0) (n := 100000) (t := srT) mixD (X5_ok h) rfl (by kernel_rfl) (by kernel_rfl) fun r hw hpre => ?_
  obtain ⟨xs0, r0, rfl, w0, _, hw0⟩ := hw
  obtain ⟨xs1, r1, rfl, w1, _, hw1⟩ := hw0
  obtain ⟨xs2, r2, rfl, w2, _, hw2⟩ := hw1
  obtain ⟨xs3, r3, rfl, w3, _, hw3⟩ := hw2
  obtain rfl : r3 = [] := hw3
  obtain ⟨R, K, L, F, c, d, e, f, g, i, rfl, hR, hK, hL, hF, hc, hd, he, hf, hg, hi⟩ := wfI10 w0
  obtain ⟨w, rfl, hw⟩ := wfI1 w1
  obtain ⟨u, rfl, hu⟩ := wfI1 w2
  obtain ⟨b, rfl, hb⟩ := wfI1 w3
  clear w0 w1 w2 w3
  have hb := hpre _ (List.mem_singleton.2 rfl)
  simp only [den_lit, den_var, den_ite, den_cmp, den_cmpB, den_tst, den_tstF, den_negT, den_negF, den_andT, den_andF, lssT, leqT, gtrT, geqT, eqlT, neqT, lssF, leqF, gtrF, geqF, eqlF, neqF, den_app, den_nilL, den_consL, den_add, den_sub, den_mul, den_tdiv, den_tmod, den_mx, den_mn, den_blit, den_bin, binI, env_v, env_f, List.flatten_cons, List.flatten_nil, List.append_nil, List.cons_append, List.nil_append, List.getD_cons_zero, List.getD_cons_succ, List.getD_nil] at hb
  clear hpre
  refine ⟨by simp [skFC], fun x hm => by
    have key : (0 ≤ strQ R K L F c d e f g i w u b ∧ strQ R K L F c d e f g i w u b ≤ 2000) ∧ (-2000 ≤ strD R K L F c d e f g i w u b ∧ strD R K L F c d e f g i w u b ≤ 0) := by
      unfold strQ strD
      split
      · split
        · rename_i h1 h2
          unfold okS at h2
          have := st_bd (R := R) (K := K) (L := L) (F := F) (w := w) (m := rm u) (b := b) (l := 0) (h := b) (by omega) (by omega) (by omega)
          omega
        · omega
      · omega
    simp only [skFC, List.mem_cons, List.not_mem_nil, or_false] at hm
    rcases hm with rfl | rfl <;> simp only [den_lit, den_var, den_ite, den_cmp, den_cmpB, den_tst, den_tstF, den_negT, den_negF, den_andT, den_andF, lssT, leqT, gtrT, geqT, eqlT, neqT, lssF, leqF, gtrF, geqF, eqlF, neqF, den_app, den_nilL, den_consL, den_add, den_sub, den_mul, den_tdiv, den_tmod, den_mx, den_mn, den_blit, den_bin, binI, env_v, env_f, List.flatten_cons, List.flatten_nil, List.append_nil, List.cons_append, List.nil_append, List.getD_cons_zero, List.getD_cons_succ, List.getD_nil, q42 h, q43 h] <;> omega, ?_⟩
  simp only [srT, skFC, VT.holds, SV.eqv, SV.eqvL, den_lit, den_var, den_ite, den_cmp, den_cmpB, den_tst, den_tstF, den_negT, den_negF, den_andT, den_andF, lssT, leqT, gtrT, geqT, eqlT, neqT, lssF, leqF, gtrF, geqF, eqlF, neqF, den_app, den_nilL, den_consL, den_add, den_sub, den_mul, den_tdiv, den_tmod, den_mx, den_mn, den_blit, den_bin, binI, env_v, env_f, List.flatten_cons, List.flatten_nil, List.append_nil, List.cons_append, List.nil_append, List.getD_cons_zero, List.getD_cons_succ, List.getD_nil, q1 h, q7 h, q9 h, q30 h, q31 h, q32 h, q42 h, q43 h, q44 h, rm_def, true_and, and_true]
  by_cases hM : okM R K L F c d e f g i
  case neg =>
    simp only [strQ, strD, strE, if_neg hM]
    simp only [okM] at hM
    repeat' (first | apply And.intro | intro _)
    all_goals first | trivial | rfl | (exfalso; omega)
  simp only [strQ, strD, strE, if_pos hM]
  by_cases hN : okS w u b
  case neg =>
    simp only [if_neg hN]
    simp only [okM, okN, okS, okI] at hM hN
    repeat' (first | apply And.intro | intro _)
    all_goals first | trivial | rfl | (exfalso; omega)
  simp only [if_pos hN]
  simp only [okM, okN, okS, okI] at hM hN
  have hm := rm_bd (u := u) (by omega) (by omega)
  have hz : stH R K L F w (rm u) b 0 b = 0 → stQ R K L F w (rm u) b 0 b = 0 ∧ stD R K L F w (rm u) b 0 b = 0 := fun z => by
    cases e : top R K L F w (rm u) b 0 b with
    | none => exact (stH_none e).2
    | some x => exact absurd z (by rw [(stH_some e).1]; decide)
  have hB := st_bd (R := R) (K := K) (L := L) (F := F) (w := w) (m := rm u) (b := b) (l := 0) (h := b) (by omega) (by omega) (by omega)
  generalize stH R K L F w (rm u) b 0 b = y1 at *
  generalize stQ R K L F w (rm u) b 0 b = y2 at *
  generalize stD R K L F w (rm u) b 0 b = y3 at *
  generalize rm u = y4 at *
  by_cases hy : y1 = 0
  · rw [if_pos hy]
    have := hz hy
    repeat' (first | apply And.intro | intro _)
    all_goals first | trivial | rfl | omega
  · rw [if_neg hy]
    repeat' (first | apply And.intro | intro _)
    all_goals first | trivial | rfl | omega
def innT : VT := (.ite (.cmp .leq (.lit 0) (.var 0)) (.ite (.neg (.cmp .leq (.var 0) (.lit 1048576))) (.leaf (.tuple [(.int .i64 (.lit 0)), (.int .i64 (.lit 0)), (.int .i64 (.lit 2))])) (.ite (.cmp .leq (.lit 1) (.var 1)) (.ite (.neg (.cmp .leq (.var 1) (.lit 4194304))) (.leaf (.tuple [(.int .i64 (.lit 0)), (.int .i64 (.lit 0)), (.int .i64 (.lit 2))])) (.ite (.cmp .leq (.lit 1) (.var 2)) (.ite (.neg (.cmp .leq (.var 2) (.lit 4194304))) (.leaf (.tuple [(.int .i64 (.lit 0)), (.int .i64 (.lit 0)), (.int .i64 (.lit 2))])) (.ite (.cmp .leq (.lit 0) (.var 3)) (.ite (.neg (.cmp .leq (.var 3) (.lit 4194304))) (.leaf (.tuple [(.int .i64 (.lit 0)), (.int .i64 (.lit 0)), (.int .i64 (.lit 2))])) (.ite (.cmp .leq (.lit 1) (.var 4)) (.ite (.neg (.cmp .leq (.var 4) (.lit 16))) (.leaf (.tuple [(.int .i64 (.lit 0)), (.int .i64 (.lit 0)), (.int .i64 (.lit 2))])) (.ite (.cmp .leq (.lit 1) (.var 5)) (.ite (.neg (.cmp .leq (.var 5) (.lit 1000))) (.leaf (.tuple [(.int .i64 (.lit 0)), (.int .i64 (.lit 0)), (.int .i64 (.lit 2))])) (.ite (.cmp .leq (.lit 0) (.var 6)) (.ite (.neg (.cmp .leq (.var 6) (.lit 1048576))) (.leaf (.tuple [(.int .i64 (.lit 0)), (.int .i64 (.lit 0)), (.int .i64 (.lit 2))])) (.ite (.cmp .leq (.lit 0) (.var 7)) (.ite (.neg (.cmp .leq (.var 7) (.lit 1048576))) (.leaf (.tuple [(.int .i64 (.lit 0)), (.int .i64 (.lit 0)), (.int .i64 (.lit 2))])) (.ite (.cmp .leq (.lit 1) (.var 8)) (.ite (.neg (.cmp .leq (.var 8) (.lit 1048576))) (.leaf (.tuple [(.int .i64 (.lit 0)), (.int .i64 (.lit 0)), (.int .i64 (.lit 2))])) (.ite (.cmp .leq (.lit 0) (.var 9)) (.ite (.neg (.cmp .leq (.var 9) (.lit 16384))) (.leaf (.tuple [(.int .i64 (.lit 0)), (.int .i64 (.lit 0)), (.int .i64 (.lit 2))])) (.ite (.cmp .leq (.lit (-1048576)) (.var 10)) (.ite (.neg (.cmp .leq (.var 10) (.lit 1048576))) (.leaf (.tuple [(.int .i64 (.lit 0)), (.int .i64 (.lit 0)), (.int .i64 (.lit 3))])) (.ite (.cmp .leq (.lit (-1048576)) (.var 11)) (.ite (.neg (.cmp .leq (.var 11) (.lit 1048576))) (.leaf (.tuple [(.int .i64 (.lit 0)), (.int .i64 (.lit 0)), (.int .i64 (.lit 3))])) (.ite (.cmp .leq (.lit (-16384)) (.var 12)) (.ite (.neg (.cmp .leq (.var 12) (.lit 16384))) (.leaf (.tuple [(.int .i64 (.lit 0)), (.int .i64 (.lit 0)), (.int .i64 (.lit 3))])) (.leaf (.tuple [(.int .i64 (.op .add (.op .sub (.lit 0) (.app 1 [(.op .mul (.var 0) (.var 10)), (.lit 1000)])) (.app 1 [(.op .mul (.op .mul (.var 12) (.var 2)) (.var 11)), (.lit 1000000)]))), (.int .i64 (.op .sub (.op .sub (.op .sub (.lit 0) (.app 1 [(.op .mul (.var 0) (.var 11)), (.lit 1000)])) (.app 1 [(.op .mul (.op .mul (.var 12) (.var 1)) (.var 10)), (.lit 1000000)])) (.op .mul (.var 12) (.var 3)))), (.int .i64 (.lit 0))]))) (.leaf (.tuple [(.int .i64 (.lit 0)), (.int .i64 (.lit 0)), (.int .i64 (.lit 3))])))) (.leaf (.tuple [(.int .i64 (.lit 0)), (.int .i64 (.lit 0)), (.int .i64 (.lit 3))])))) (.leaf (.tuple [(.int .i64 (.lit 0)), (.int .i64 (.lit 0)), (.int .i64 (.lit 3))])))) (.leaf (.tuple [(.int .i64 (.lit 0)), (.int .i64 (.lit 0)), (.int .i64 (.lit 2))])))) (.leaf (.tuple [(.int .i64 (.lit 0)), (.int .i64 (.lit 0)), (.int .i64 (.lit 2))])))) (.leaf (.tuple [(.int .i64 (.lit 0)), (.int .i64 (.lit 0)), (.int .i64 (.lit 2))])))) (.leaf (.tuple [(.int .i64 (.lit 0)), (.int .i64 (.lit 0)), (.int .i64 (.lit 2))])))) (.leaf (.tuple [(.int .i64 (.lit 0)), (.int .i64 (.lit 0)), (.int .i64 (.lit 2))])))) (.leaf (.tuple [(.int .i64 (.lit 0)), (.int .i64 (.lit 0)), (.int .i64 (.lit 2))])))) (.leaf (.tuple [(.int .i64 (.lit 0)), (.int .i64 (.lit 0)), (.int .i64 (.lit 2))])))) (.leaf (.tuple [(.int .i64 (.lit 0)), (.int .i64 (.lit 0)), (.int .i64 (.lit 2))])))) (.leaf (.tuple [(.int .i64 (.lit 0)), (.int .i64 (.lit 0)), (.int .i64 (.lit 2))])))) (.leaf (.tuple [(.int .i64 (.lit 0)), (.int .i64 (.lit 0)), (.int .i64 (.lit 2))])))
theorem inn_ok {fn : Nat → List Int → Int} (h : GoodF fn) : (inFC).OK Try.prog fn := by
  refine FC.ok_num (X := Xf) (d := 0) (n := 100000) (t := innT) mixD (Xf_ok h) rfl (by kernel_rfl) (by kernel_rfl) fun r hw hpre => ?_
  obtain ⟨xs0, r0, rfl, w0, _, hw0⟩ := hw
  obtain ⟨xs1, r1, rfl, w1, _, hw1⟩ := hw0
  obtain ⟨xs2, r2, rfl, w2, _, hw2⟩ := hw1
  obtain ⟨xs3, r3, rfl, w3, _, hw3⟩ := hw2
  obtain rfl : r3 = [] := hw3
  obtain ⟨R, K, L, F, c, d, e, f, g, i, rfl, hR, hK, hL, hF, hc, hd, he, hf, hg, hi⟩ := wfI10 w0
  obtain ⟨x, rfl, hx⟩ := wfI1 w1
  obtain ⟨q, rfl, hq⟩ := wfI1 w2
  obtain ⟨w, rfl, hw⟩ := wfI1 w3
  clear w0 w1 w2 w3
  refine ⟨by simp [inFC], by simp [inFC], ?_⟩
  simp only [innT, inFC, VT.holds, SV.eqv, SV.eqvL, den_lit, den_var, den_ite, den_cmp, den_cmpB, den_tst, den_tstF, den_negT, den_negF, den_andT, den_andF, lssT, leqT, gtrT, geqT, eqlT, neqT, lssF, leqF, gtrF, geqF, eqlF, neqF, den_app, den_nilL, den_consL, den_add, den_sub, den_mul, den_tdiv, den_tmod, den_mx, den_mn, den_blit, den_bin, binI, env_v, env_f, List.flatten_cons, List.flatten_nil, List.append_nil, List.cons_append, List.nil_append, List.getD_cons_zero, List.getD_cons_succ, List.getD_nil, q1 h, q45 h, q46 h, q47 h, rm_def, true_and, and_true]
  by_cases hM : okM R K L F c d e f g i
  case neg =>
    simp only [innA, innB, innE, if_neg hM]
    simp only [okM] at hM
    repeat' (first | apply And.intro | intro _)
    all_goals first | trivial | rfl | (exfalso; omega)
  simp only [innA, innB, innE, if_pos hM]
  by_cases hN : okI x q w
  case neg =>
    simp only [if_neg hN]
    simp only [okM, okN, okS, okI] at hM hN
    repeat' (first | apply And.intro | intro _)
    all_goals first | trivial | rfl | (exfalso; omega)
  simp only [if_pos hN]
  simp only [okM, okN, okS, okI] at hM hN
  simp only [vD, vQ]
  repeat' (first | apply And.intro | intro _)
  all_goals first | trivial | rfl | omega
def roomT : VT := (.ite (.cmp .leq (.lit 1) (.var 0)) (.ite (.neg (.cmp .leq (.var 0) (.lit 1073741824))) (.leaf (.tuple [(.int .i64 (.lit 0)), (.int .i64 (.lit 3))])) (.leaf (.tuple [(.int .i64 (.app 1 [(.op .mul (.var 0) (.lit 26755)), (.lit 65536)])), (.int .i64 (.lit 0))]))) (.leaf (.tuple [(.int .i64 (.lit 0)), (.int .i64 (.lit 3))])))
theorem room_ok {fn : Nat → List Int → Int} (h : GoodF fn) : roFC.OK Try.prog fn := by
  refine FC.ok_num (X := Xf) (d := 0) (n := 100000) (t := roomT) mixD (Xf_ok h) rfl (by kernel_rfl) (by kernel_rfl) fun r hw hpre => ?_
  obtain ⟨xs0, r0, rfl, w0, _, hw0⟩ := hw
  obtain rfl : r0 = [] := hw0
  obtain ⟨u, rfl, hu⟩ := wfI1 w0
  clear w0
  have hb := @rm_bd u
  refine ⟨by simp [roFC], fun x hm => ?_, ?_⟩
  · simp only [roFC, List.mem_singleton] at hm
    subst hm
    simp only [den_lit, den_var, den_ite, den_cmp, den_cmpB, den_tst, den_tstF, den_negT, den_negF, den_andT, den_andF, lssT, leqT, gtrT, geqT, eqlT, neqT, lssF, leqF, gtrF, geqF, eqlF, neqF, den_app, den_nilL, den_consL, den_add, den_sub, den_mul, den_tdiv, den_tmod, den_mx, den_mn, den_blit, den_bin, binI, env_v, env_f, List.flatten_cons, List.flatten_nil, List.append_nil, List.cons_append, List.nil_append, List.getD_cons_zero, List.getD_cons_succ, List.getD_nil, q48 h, roomV]
    split <;> omega
  · simp only [roomT, roFC, VT.holds, SV.eqv, SV.eqvL, den_lit, den_var, den_ite, den_cmp, den_cmpB, den_tst, den_tstF, den_negT, den_negF, den_andT, den_andF, lssT, leqT, gtrT, geqT, eqlT, neqT, lssF, leqF, gtrF, geqF, eqlF, neqF, den_app, den_nilL, den_consL, den_add, den_sub, den_mul, den_tdiv, den_tmod, den_mx, den_mn, den_blit, den_bin, binI, env_v, env_f, List.flatten_cons, List.flatten_nil, List.append_nil, List.cons_append, List.nil_append, List.getD_cons_zero, List.getD_cons_succ, List.getD_nil, q1 h, q48 h, q49 h, rm_def, roomV, WK.roomE, true_and, and_true]
    by_cases hu_ : 1 ≤ u ∧ u ≤ 1073741824
    · simp only [if_pos hu_]
      repeat' (first | apply And.intro | intro _)
      all_goals first | trivial | rfl | omega
    · simp only [if_neg hu_]
      repeat' (first | apply And.intro | intro _)
      all_goals first | trivial | rfl | omega
def knFC : FC := ⟨5, [], .bool (.lit true), [], [], []⟩
theorem kn_ok {fn : Nat → List Int → Int} (h : GoodF fn) : knFC.OK Try.prog fn := by
  refine FC.ok_eqv (X := noPar) (d := 1) (n := 100000) (t := .leaf (.bool (.lit true))) mixD (nop_ok h) rfl (by kernel_rfl) (by kernel_rfl) fun r hw _ => ⟨by simp [knFC], by simp [knFC], ?_⟩
  exact rfl
def Xw : Par := knFC.par ((wkFC 6).par ((wkFC 7).par ((skFC 8).par ((skFC 9).par Xf))))
theorem Xw_ok {fn : Nat → List Int → Int} (h : GoodF fn) : ParOK Try.prog fn Xw := FC.parOK (kn_ok h) rfl (FC.parOK (wd_ok h) rfl (FC.parOK (wr_ok h) rfl (FC.parOK (sd_ok h) rfl (FC.parOK (sr_ok h) rfl (Xf_ok h)))))
def Xg : Par := knFC.par ((wkFC 6).par ((skFC 8).par (inFC.par (roFC.par Xf))))
theorem Xg_ok {fn : Nat → List Int → Int} (h : GoodF fn) : ParOK Try.prog fn Xg := FC.parOK (kn_ok h) rfl (FC.parOK (wd_ok h) rfl (FC.parOK (sd_ok h) rfl (FC.parOK (inn_ok h) rfl (FC.parOK (room_ok h) rfl (Xf_ok h)))))
end Go.Proofs.Ytgbfaomlmpfbfaa
