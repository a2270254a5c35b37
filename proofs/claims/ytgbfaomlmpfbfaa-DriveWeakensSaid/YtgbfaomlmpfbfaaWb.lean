/- Contracts: floors, the middle of a span, what lies between, the weakening of several currents, the greatest possible current. -/
import Derived.Test.YtgbfaomlmpfbfaaWa
import Derived.Test.YtgbfaomlmpfbfaaChecked
namespace Go.Proofs.Ytgbfaomlmpfbfaa
open Go Go.SX Go.RowKit WK
set_option linter.unusedVariables false
set_option linter.unusedSimpArgs false
set_option maxRecDepth 100000
theorem mixD : Try.prog.follows .mixedOrders = true := by kernel_rfl
theorem nop_ok {fn : Nat → List Int → Int} (h : GoodF fn) : ParOK Try.prog fn noPar := noPar_ok fn h.rows
theorem wfI1 {xs : List Int} (h : wfL [some .i64] xs) : ∃ x0 : Int, xs = [x0] ∧ (-9223372036854775808 ≤ x0 ∧ x0 ≤ 9223372036854775807) := by
  obtain ⟨x0, _, rfl, g0, e⟩ := h
  rw [show _ = ([] : List Int) from e]
  exact ⟨x0, rfl, wf_rng (g0 _ rfl)⟩
theorem wfI2 {xs : List Int} (h : wfL [some .i64, some .i64] xs) : ∃ x0 x1 : Int, xs = [x0, x1] ∧ (-9223372036854775808 ≤ x0 ∧ x0 ≤ 9223372036854775807) ∧ (-9223372036854775808 ≤ x1 ∧ x1 ≤ 9223372036854775807) := by
  obtain ⟨x0, _, rfl, g0, x1, _, rfl, g1, e⟩ := h
  rw [show _ = ([] : List Int) from e]
  exact ⟨x0, x1, rfl, wf_rng (g0 _ rfl), wf_rng (g1 _ rfl)⟩
theorem wfI10 {xs : List Int} (h : wfL [some .i64, some .i64, some .i64, some .i64, some .i64, some .i64, some .i64, some .i64, some .i64, some .i64] xs) : ∃ x0 x1 x2 x3 x4 x5 x6 x7 x8 x9 : Int, xs = [x0, x1, x2, x3, x4, x5, x6, x7, x8, x9] ∧ (-9223372036854775808 ≤ x0 ∧ x0 ≤ 9223372036854775807) ∧ (-9223372036854775808 ≤ x1 ∧ x1 ≤ 9223372036854775807) ∧ (-9223372036854775808 ≤ x2 ∧ x2 ≤ 9223372036854775807) ∧ (-9223372036854775808 ≤ x3 ∧ x3 ≤ 9223372036854775807) ∧ (-9223372036854775808 ≤ x4 ∧ x4 ≤ 9223372036854775807) ∧ (-9223372036854775808 ≤ x5 ∧ x5 ≤ 9223372036854775807) ∧ (-9223372036854775808 ≤ x6 ∧ x6 ≤ 9223372036854775807) ∧ (-9223372036854775808 ≤ x7 ∧ x7 ≤ 9223372036854775807) ∧ (-9223372036854775808 ≤ x8 ∧ x8 ≤ 9223372036854775807) ∧ (-9223372036854775808 ≤ x9 ∧ x9 ≤ 9223372036854775807) := by
  obtain ⟨x0, _, rfl, g0, x1, _, rfl, g1, x2, _, rfl, g2, x3, _, rfl, g3, x4, _, rfl, g4, x5, _, rfl, g5, x6, _, rfl, g6, x7, _, rfl, g7, x8, _, rfl, g8, x9, _, rfl, g9, e⟩ := h
  rw [show _ = ([] : List Int) from e]
  exact ⟨x0, x1, x2, x3, x4, x5, x6, x7, x8, x9, rfl, wf_rng (g0 _ rfl), wf_rng (g1 _ rfl), wf_rng (g2 _ rfl), wf_rng (g3 _ rfl), wf_rng (g4 _ rfl), wf_rng (g5 _ rfl), wf_rng (g6 _ rfl), wf_rng (g7 _ rfl), wf_rng (g8 _ rfl), wf_rng (g9 _ rfl)⟩
theorem wfI13 {xs : List Int} (h : wfL [some .i64, some .i64, some .i64, some .i64, some .i64, some .i64, some .i64, some .i64, some .i64, some .i64, some .i64, some .i64, some .i64] xs) : ∃ x0 x1 x2 x3 x4 x5 x6 x7 x8 x9 x10 x11 x12 : Int, xs = [x0, x1, x2, x3, x4, x5, x6, x7, x8, x9, x10, x11, x12] ∧ (-9223372036854775808 ≤ x0 ∧ x0 ≤ 9223372036854775807) ∧ (-9223372036854775808 ≤ x1 ∧ x1 ≤ 9223372036854775807) ∧ (-9223372036854775808 ≤ x2 ∧ x2 ≤ 9223372036854775807) ∧ (-9223372036854775808 ≤ x3 ∧ x3 ≤ 9223372036854775807) ∧ (-9223372036854775808 ≤ x4 ∧ x4 ≤ 9223372036854775807) ∧ (-9223372036854775808 ≤ x5 ∧ x5 ≤ 9223372036854775807) ∧ (-9223372036854775808 ≤ x6 ∧ x6 ≤ 9223372036854775807) ∧ (-9223372036854775808 ≤ x7 ∧ x7 ≤ 9223372036854775807) ∧ (-9223372036854775808 ≤ x8 ∧ x8 ≤ 9223372036854775807) ∧ (-9223372036854775808 ≤ x9 ∧ x9 ≤ 9223372036854775807) ∧ (-9223372036854775808 ≤ x10 ∧ x10 ≤ 9223372036854775807) ∧ (-9223372036854775808 ≤ x11 ∧ x11 ≤ 9223372036854775807) ∧ (-9223372036854775808 ≤ x12 ∧ x12 ≤ 9223372036854775807) := by
  obtain ⟨x0, _, rfl, g0, x1, _, rfl, g1, x2, _, rfl, g2, x3, _, rfl, g3, x4, _, rfl, g4, x5, _, rfl, g5, x6, _, rfl, g6, x7, _, rfl, g7, x8, _, rfl, g8, x9, _, rfl, g9, x10, _, rfl, g10, x11, _, rfl, g11, x12, _, rfl, g12, e⟩ := h
  rw [show _ = ([] : List Int) from e]
  exact ⟨x0, x1, x2, x3, x4, x5, x6, x7, x8, x9, x10, x11, x12, rfl, wf_rng (g0 _ rfl), wf_rng (g1 _ rfl), wf_rng (g2 _ rfl), wf_rng (g3 _ rfl), wf_rng (g4 _ rfl), wf_rng (g5 _ rfl), wf_rng (g6 _ rfl), wf_rng (g7 _ rfl), wf_rng (g8 _ rfl), wf_rng (g9 _ rfl), wf_rng (g10 _ rfl), wf_rng (g11 _ rfl), wf_rng (g12 _ rfl)⟩
def sI : Bool × List (Option IntKind) := (false, [some .i64])
def sU : Bool × List (Option IntKind) := (false, [some .u64])
def sp2 : Bool × List (Option IntKind) := (true, [some .i64, some .i64])
def sF : Bool × List (Option IntKind) := (true, [some .i64, some .i64, some .i64, some .i64, some .i64, some .i64, some .i64, some .i64, some .i64, some .i64, some .i64, some .i64, some .i64])
def sM : Bool × List (Option IntKind) := (true, [some .i64, some .i64, some .i64, some .i64, some .i64, some .i64, some .i64, some .i64, some .i64, some .i64])
def bet (e : E) (lo hi : Int) : List BE := [.cmp .geq e (.lit lo), .cmp .leq e (.lit hi)]
def mulP : List BE := bet (.var 0) 0 4294967295 ++ bet (.var 1) 1 1
def mulFC : FC := ⟨55, [sU, sU], .tuple [.int .u64 (.lit 0), .int .u64 (.var 0)], mulP, [], []⟩
def midP : List BE := bet (.var 0) 0 2000 ++ bet (.var 1) 0 2000 ++ ([.cmp .leq (.var 0) (.var 1)] : List BE)
def midFC : FC := ⟨43, [sp2], .tuple [.int .i64 (.op .tdiv (.op .add (.var 0) (.var 1)) (.lit 2)), .int .i64 (.lit 0)], midP, [], []⟩
def flV : E := .app 1 [.var 0, .var 1]
def flFC (f : Nat) : FC := ⟨f, [sI, sI], .int .i64 flV, [.cmp .geq (.var 1) (.lit 1)], [.cmp .leq flV (.op .tdiv (.var 0) (.var 1)), .cmp .leq (.op .sub (.op .tdiv (.var 0) (.var 1)) (.lit 1)) flV], [(flV, -9223372036854775808, 9223372036854775807)]⟩
def Xf : Par := (flFC 30).par ((flFC 46).par noPar)
def btA : E := .app 3 [.var 0, .var 1, .var 2, .var 3]
def btB : E := .app 4 [.var 0, .var 1, .var 2, .var 3]
def btP (lo : Int) : List BE := bet (.var 0) lo 68719476736 ++ bet (.var 1) 1 1000000 ++ bet (.var 2) (-274877906944) 274877906944 ++ bet (.var 3) (-274877906944) 274877906944
def btFC (lo : Int) : FC := ⟨40, [sI, sI, sp2], .agg [.int .i64 btA, .int .i64 btB], btP lo, [], [(btA, -1152921504606846976, 1152921504606846976), (btB, -1152921504606846976, 1152921504606846976)]⟩
def bookIf (p : List SV → Bool) (B1 B2 : Book) : Book := fun f args cx => bif p args then B1 f args cx else B2 f args cx
def parIf (p : List SV → Bool) (c : FC) (X : Par) : Par := { X with book := bookIf p (c.book X.book) X.book }
def isNew : List SV → Bool
  | [_, .agg [.int _ (.var _), .int _ (.var _)]] => false
  | .int _ (.var _) :: _ => false
  | _ => true
def X0 : Par := parIf isNew (btFC 0) Xf
def X1 : Par := (btFC (-68719476736)).par Xf
def f9 : List E := [.var 0, .var 1, .var 2, .var 3, .var 10, .var 11, .var 12, .var 13, .var 14]
def moP : List BE := bet (.var 0) 0 1048576 ++ bet (.var 1) 1 4194304 ++ bet (.var 2) 1 4194304 ++ bet (.var 3) 0 4194304
def fiP : List BE := moP ++ bet (.var 10) (-16384) 16384 ++ bet (.var 11) 0 1073741824 ++ bet (.var 12) 0 2000
def waP : List BE := fiP ++ bet (.var 13) (-1048576) 1048576 ++ bet (.var 14) (-1048576) 1048576
def waFC : FC := ⟨19, [sF, sp2], .tuple [.int .i64 (.app 5 f9), .bool (.tst (.app 6 f9))], waP, [], [(.app 6 f9, 0, 1)]⟩
def X2 : Par := waFC.par (midFC.par X1)
def stP (k : Int) : List BE := fiP ++ bet (.var 13) 0 2000 ++ bet (.var 14) 0 2000 ++ ([.cmp .leq (.var 13) (.var 14), .cmp .leq (.var 14) (.op .add (.var 13) (.lit k))] : List BE)
def stFC (k : Int) : FC := ⟨28, [sF, sp2], .tuple [.int .i64 (.app 7 f9), .int .i64 (.app 8 f9), .bool (.tst (.app 9 f9))], stP k, [], [(.app 7 f9, 0, 2000), (.app 8 f9, -2000, 0), (.app 9 f9, 0, 1)]⟩
def fl30T : VT := (.ite (.cmp .lss (.op .tmod (.var 0) (.var 1)) (.lit 0)) (.leaf (.int .i64 (.bin .sub .i64 (.bin .quo .i64 (.var 0) (.var 1)) (.lit 1)))) (.leaf (.int .i64 (.bin .quo .i64 (.var 0) (.var 1)))))
theorem fl30_ok {fn : Nat → List Int → Int} (h : GoodF fn) : (flFC 30).OK Try.prog fn := by
  refine FC.ok_num (X := noPar) (d := 1) (n := 100000) (t := fl30T) mixD (nop_ok h) rfl (by kernel_rfl) (by kernel_rfl) fun r hw hpre => ?_
  obtain ⟨xs0, r0, rfl, w0, _, hw0⟩ := hw
  obtain ⟨xs1, r1, rfl, w1, _, hw1⟩ := hw0
  obtain rfl : r1 = [] := hw1
  obtain ⟨a, rfl, ha⟩ := wfI1 w0
  obtain ⟨b, rfl, hb⟩ := wfI1 w1
  clear w0 w1
  have hb := hpre _ (List.mem_singleton.2 rfl)
  simp only [den_lit, den_var, den_ite, den_cmp, den_cmpB, den_tst, den_tstF, den_negT, den_negF, den_andT, den_andF, lssT, leqT, gtrT, geqT, eqlT, neqT, lssF, leqF, gtrF, geqF, eqlF, neqF, den_app, den_nilL, den_consL, den_add, den_sub, den_mul, den_tdiv, den_tmod, den_mx, den_mn, den_blit, den_bin, binI, env_v, env_f, List.flatten_cons, List.flatten_nil, List.append_nil, List.cons_append, List.nil_append, List.getD_cons_zero, List.getD_cons_succ, List.getD_nil] at hb
  have e1 := go_fl (n := a) hb
  have e2 := fl_tdiv (n := a) hb
  have e3 := fl_bd (n := a) hb ha.1 ha.2
  refine ⟨?_, ?_, ?_⟩
  · intro be hm
    simp only [flFC, List.mem_cons, List.not_mem_nil, or_false] at hm
    rcases hm with rfl | rfl <;> simp only [flV, den_lit, den_var, den_ite, den_cmp, den_cmpB, den_tst, den_tstF, den_negT, den_negF, den_andT, den_andF, lssT, leqT, gtrT, geqT, eqlT, neqT, lssF, leqF, gtrF, geqF, eqlF, neqF, den_app, den_nilL, den_consL, den_add, den_sub, den_mul, den_tdiv, den_tmod, den_mx, den_mn, den_blit, den_bin, binI, env_v, env_f, List.flatten_cons, List.flatten_nil, List.append_nil, List.cons_append, List.nil_append, List.getD_cons_zero, List.getD_cons_succ, List.getD_nil, q1 h] <;> omega
  · intro p hm
    simp only [flFC, List.mem_singleton] at hm
    subst hm
    simp only [flV, den_lit, den_var, den_ite, den_cmp, den_cmpB, den_tst, den_tstF, den_negT, den_negF, den_andT, den_andF, lssT, leqT, gtrT, geqT, eqlT, neqT, lssF, leqF, gtrF, geqF, eqlF, neqF, den_app, den_nilL, den_consL, den_add, den_sub, den_mul, den_tdiv, den_tmod, den_mx, den_mn, den_blit, den_bin, binI, env_v, env_f, List.flatten_cons, List.flatten_nil, List.append_nil, List.cons_append, List.nil_append, List.getD_cons_zero, List.getD_cons_succ, List.getD_nil, q1 h]
    exact e3
  · simp only [fl30T, flFC, flV, VT.holds, SV.eqv, den_lit, den_var, den_ite, den_cmp, den_cmpB, den_tst, den_tstF, den_negT, den_negF, den_andT, den_andF, lssT, leqT, gtrT, geqT, eqlT, neqT, lssF, leqF, gtrF, geqF, eqlF, neqF, den_app, den_nilL, den_consL, den_add, den_sub, den_mul, den_tdiv, den_tmod, den_mx, den_mn, den_blit, den_bin, binI, env_v, env_f, List.flatten_cons, List.flatten_nil, List.append_nil, List.cons_append, List.nil_append, List.getD_cons_zero, List.getD_cons_succ, List.getD_nil, q1 h, true_and]
    have e5 : a.tdiv b ≤ 9223372036854775807 := by
      by_cases h0 : 0 ≤ a
      · rw [Int.tdiv_eq_ediv_of_nonneg h0]; exact e3.2
      · have := Int.tdiv_nonneg (a := -a) (b := b) (by omega) (by omega)
        rw [Int.neg_tdiv] at this
        omega
    have e4 : -9223372036854775808 ≤ a.tdiv b ∧ a.tdiv b ≤ 9223372036854775807 := ⟨by omega, e5⟩
    rw [wrap_i64 e4.1 e4.2]
    refine ⟨fun ht => ?_, fun ht => ?_⟩
    · rw [if_pos (by omega)] at e1
      rw [wrap_i64 (by omega) (by omega)]; exact e1
    · rw [if_neg (by omega)] at e1
      exact e1
def fl46T : VT := (.ite (.cmp .lss (.op .tmod (.var 0) (.var 1)) (.lit 0)) (.leaf (.int .i64 (.bin .sub .i64 (.bin .quo .i64 (.var 0) (.var 1)) (.lit 1)))) (.leaf (.int .i64 (.bin .quo .i64 (.var 0) (.var 1)))))
theorem fl46_ok {fn : Nat → List Int → Int} (h : GoodF fn) : (flFC 46).OK Try.prog fn := by
  refine FC.ok_num (X := noPar) (d := 1) (n := 100000) (t := fl46T) mixD (nop_ok h) rfl (by kernel_rfl) (by kernel_rfl) fun r hw hpre => ?_
  obtain ⟨xs0, r0, rfl, w0, _, hw0⟩ := hw
  obtain ⟨xs1, r1, rfl, w1, _, hw1⟩ := hw0
  obtain rfl : r1 = [] := hw1
  obtain ⟨a, rfl, ha⟩ := wfI1 w0
  obtain ⟨b, rfl, hb⟩ := wfI1 w1
  clear w0 w1
  have hb := hpre _ (List.mem_singleton.2 rfl)
  simp only [den_lit, den_var, den_ite, den_cmp, den_cmpB, den_tst, den_tstF, den_negT, den_negF, den_andT, den_andF, lssT, leqT, gtrT, geqT, eqlT, neqT, lssF, leqF, gtrF, geqF, eqlF, neqF, den_app, den_nilL, den_consL, den_add, den_sub, den_mul, den_tdiv, den_tmod, den_mx, den_mn, den_blit, den_bin, binI, env_v, env_f, List.flatten_cons, List.flatten_nil, List.append_nil, List.cons_append, List.nil_append, List.getD_cons_zero, List.getD_cons_succ, List.getD_nil] at hb
  have e1 := go_fl (n := a) hb
  have e2 := fl_tdiv (n := a) hb
  have e3 := fl_bd (n := a) hb ha.1 ha.2
  refine ⟨?_, ?_, ?_⟩
  · intro be hm
    simp only [flFC, List.mem_cons, List.not_mem_nil, or_false] at hm
    rcases hm with rfl | rfl <;> simp only [flV, den_lit, den_var, den_ite, den_cmp, den_cmpB, den_tst, den_tstF, den_negT, den_negF, den_andT, den_andF, lssT, leqT, gtrT, geqT, eqlT, neqT, lssF, leqF, gtrF, geqF, eqlF, neqF, den_app, den_nilL, den_consL, den_add, den_sub, den_mul, den_tdiv, den_tmod, den_mx, den_mn, den_blit, den_bin, binI, env_v, env_f, List.flatten_cons, List.flatten_nil, List.append_nil, List.cons_append, List.nil_append, List.getD_cons_zero, List.getD_cons_succ, List.getD_nil, q1 h] <;> omega
  · intro p hm
    simp only [flFC, List.mem_singleton] at hm
    subst hm
    simp only [flV, den_lit, den_var, den_ite, den_cmp, den_cmpB, den_tst, den_tstF, den_negT, den_negF, den_andT, den_andF, lssT, leqT, gtrT, geqT, eqlT, neqT, lssF, leqF, gtrF, geqF, eqlF, neqF, den_app, den_nilL, den_consL, den_add, den_sub, den_mul, den_tdiv, den_tmod, den_mx, den_mn, den_blit, den_bin, binI, env_v, env_f, List.flatten_cons, List.flatten_nil, List.append_nil, List.cons_append, List.nil_append, List.getD_cons_zero, List.getD_cons_succ, List.getD_nil, q1 h]
    exact e3
  · simp only [fl46T, flFC, flV, VT.holds, SV.eqv, den_lit, den_var, den_ite, den_cmp, den_cmpB, den_tst, den_tstF, den_negT, den_negF, den_andT, den_andF, lssT, leqT, gtrT, geqT, eqlT, neqT, lssF, leqF, gtrF, geqF, eqlF, neqF, den_app, den_nilL, den_consL, den_add, den_sub, den_mul, den_tdiv, den_tmod, den_mx, den_mn, den_blit, den_bin, binI, env_v, env_f, List.flatten_cons, List.flatten_nil, List.append_nil, List.cons_append, List.nil_append, List.getD_cons_zero, List.getD_cons_succ, List.getD_nil, q1 h, true_and]
    have e5 : a.tdiv b ≤ 9223372036854775807 := by
      by_cases h0 : 0 ≤ a
      · rw [Int.tdiv_eq_ediv_of_nonneg h0]; exact e3.2
      · have := Int.tdiv_nonneg (a := -a) (b := b) (by omega) (by omega)
        rw [Int.neg_tdiv] at this
        omega
    have e4 : -9223372036854775808 ≤ a.tdiv b ∧ a.tdiv b ≤ 9223372036854775807 := ⟨by omega, e5⟩
    rw [wrap_i64 e4.1 e4.2]
    refine ⟨fun ht => ?_, fun ht => ?_⟩
    · rw [if_pos (by omega)] at e1
      rw [wrap_i64 (by omega) (by omega)]; exact e1
    · rw [if_neg (by omega)] at e1
      exact e1
theorem Xf_ok {fn : Nat → List Int → Int} (h : GoodF fn) : ParOK Try.prog fn Xf := FC.parOK (fl30_ok h) rfl (FC.parOK (fl46_ok h) rfl (nop_ok h))
/-! ### a product of one word, and the middle of a span -/
theorem shr_lo {a : Int} (h0 : 0 ≤ a) (h1 : a ≤ 4294967295) : binI .shr .u64 a 32 = 0 := by
  show a.fdiv (2 ^ (min (32 : Int).toNat 64)) = 0
  rw [show (2 : Int) ^ (min (32 : Int).toNat 64) = 4294967296 from rfl, Int.fdiv_eq_ediv_of_nonneg _ (by decide)]
  omega
theorem and_lo {a : Int} (h0 : 0 ≤ a) (h1 : a ≤ 4294967295) : binI .and .u64 a 4294967295 = a := by
  show IntKind.u64.wrap ((BitVec.ofInt 64 a &&& BitVec.ofInt 64 4294967295).toNat : Int) = a
  obtain ⟨n, hn⟩ : ∃ n : Nat, a = (n : Int) := ⟨a.toNat, by omega⟩
  subst hn
  have e : BitVec.ofInt 64 (n : Int) = BitVec.ofNat 64 n := BitVec.ofInt_natCast ..
  rw [e, show BitVec.ofInt 64 4294967295 = BitVec.ofNat 64 4294967295 from rfl, BitVec.toNat_and, BitVec.toNat_ofNat, BitVec.toNat_ofNat, Nat.mod_eq_of_lt (show n < 2 ^ 64 by omega), show 4294967295 % 2 ^ 64 = 2 ^ 32 - 1 from rfl, Nat.and_two_pow_sub_one_eq_mod]
  rw [Nat.mod_eq_of_lt (show n < 2 ^ 32 by omega)]
  simp [IntKind.wrap, IntKind.bits, IntKind.signed]
  omega
theorem mul_1 {a : Int} (h0 : 0 ≤ a) (h1 : a ≤ 4294967295) : binI .mul .u64 a 1 = a := by
  show IntKind.u64.wrap (a * 1) = a
  simp [IntKind.wrap, IntKind.bits, IntKind.signed]
  omega
def mulT : VT := (.leaf (.tuple [(.int .u64 (.bin .add .u64 (.bin .add .u64 (.op .mul (.bin .shr .u64 (.var 0) (.lit 32)) (.bin .shr .u64 (.var 1) (.lit 32))) (.bin .shr .u64 (.bin .add .u64 (.bin .mul .u64 (.bin .shr .u64 (.var 0) (.lit 32)) (.bin .and .u64 (.var 1) (.lit 4294967295))) (.bin .shr .u64 (.bin .mul .u64 (.bin .and .u64 (.var 0) (.lit 4294967295)) (.bin .and .u64 (.var 1) (.lit 4294967295))) (.lit 32))) (.lit 32))) (.bin .shr .u64 (.bin .add .u64 (.bin .and .u64 (.bin .add .u64 (.bin .mul .u64 (.bin .shr .u64 (.var 0) (.lit 32)) (.bin .and .u64 (.var 1) (.lit 4294967295))) (.bin .shr .u64 (.bin .mul .u64 (.bin .and .u64 (.var 0) (.lit 4294967295)) (.bin .and .u64 (.var 1) (.lit 4294967295))) (.lit 32))) (.lit 4294967295)) (.op .mul (.bin .and .u64 (.var 0) (.lit 4294967295)) (.bin .shr .u64 (.var 1) (.lit 32)))) (.lit 32)))), (.int .u64 (.op .mul (.var 0) (.var 1)))]))
theorem mul_ok {fn : Nat → List Int → Int} (h : GoodF fn) : mulFC.OK Try.prog fn := by
  refine FC.ok_num (X := noPar) (d := 0) (n := 100000) (t := mulT) mixD (nop_ok h) rfl (by kernel_rfl) (by kernel_rfl) fun r hw hpre => ?_
  obtain ⟨xs0, r0, rfl, ⟨a, _, rfl, _, e0⟩, _, xs1, r1, rfl, ⟨b, _, rfl, _, e1⟩, _, e2⟩ := hw
  obtain rfl := e0
  obtain rfl := e1
  obtain rfl := e2
  replace hpre : ∀ x, x ∈ mulP → x.den _ = true := hpre
  simp only [mulP, bet, List.mem_append, List.mem_cons, List.not_mem_nil, or_false, forall_eq_or_imp, forall_eq, or_imp, forall_and, den_lit, den_var, den_ite, den_cmp, den_cmpB, den_tst, den_tstF, den_negT, den_negF, den_andT, den_andF, lssT, leqT, gtrT, geqT, eqlT, neqT, lssF, leqF, gtrF, geqF, eqlF, neqF, den_app, den_nilL, den_consL, den_add, den_sub, den_mul, den_tdiv, den_tmod, den_mx, den_mn, den_blit, den_bin, binI, env_v, env_f, List.flatten_cons, List.flatten_nil, List.append_nil, List.cons_append, List.nil_append, List.getD_cons_zero, List.getD_cons_succ, List.getD_nil] at hpre
  have p1 : 0 ≤ a := by omega
  have p2 : a ≤ 4294967295 := by omega
  obtain rfl : b = 1 := by omega
  refine ⟨by simp [mulFC], by simp [mulFC], ?_⟩
  simp only [mulT, mulFC, VT.holds, SV.eqv, SV.eqvL, den_lit, den_var, den_ite, den_cmp, den_cmpB, den_tst, den_tstF, den_negT, den_negF, den_andT, den_andF, lssT, leqT, gtrT, geqT, eqlT, neqT, lssF, leqF, gtrF, geqF, eqlF, neqF, den_app, den_nilL, den_consL, den_add, den_sub, den_mul, den_tdiv, den_tmod, den_mx, den_mn, den_blit, den_bin, env_v, env_f, List.flatten_cons, List.flatten_nil, List.append_nil, List.cons_append, List.nil_append, List.getD_cons_zero, List.getD_cons_succ, List.getD_nil, true_and, and_true]
  rw [shr_lo p1 p2, and_lo p1 p2, shr_lo (a := 1) (by decide) (by decide), and_lo (a := 1) (by decide) (by decide), mul_1 p1 p2, shr_lo p1 p2, Int.mul_one, Int.mul_zero]
  exact ⟨by rw [Int.mul_zero]; decide, rfl⟩
theorem Xmul_ok {fn : Nat → List Int → Int} (h : GoodF fn) : ParOK Try.prog fn (mulFC.par noPar) := FC.parOK (mul_ok h) rfl (nop_ok h)
def midT : VT := (.leaf (.tuple [(.int .i64 (.op .tdiv (.op .add (.var 0) (.var 1)) (.lit 2))), (.int .i64 (.lit 0))]))
theorem mid_ok {fn : Nat → List Int → Int} (h : GoodF fn) : midFC.OK Try.prog fn := by
  refine FC.ok_num (X := mulFC.par noPar) (d := 1) (n := 100000) (t := midT) mixD (Xmul_ok h) rfl (by kernel_rfl) (by kernel_rfl) fun r hw hpre => ?_
  exact ⟨by simp [midFC], by simp [midFC], ⟨rfl, rfl⟩, ⟨rfl, rfl⟩, trivial⟩
/-! ### all numbers between -/
theorem bookIf_ok {P : Program} {env : Env} {p : List SV → Bool} {B1 B2 : Book} (h1 : BookOK P env B1) (h2 : BookOK P env B2) : BookOK P env (bookIf p B1 B2) := by
  intro f args cx sm h
  unfold bookIf at h
  cases hp : p args with
  | true => rw [hp, cond_true] at h; exact h1 f args cx sm h
  | false => rw [hp, cond_false] at h; exact h2 f args cx sm h
theorem parIf_ok {P : Program} {fn : Nat → List Int → Int} {p : List SV → Bool} {c : FC} {X : Par} (hc : c.OK P fn) (hs : (c.sig.all fun p => p.1 || Nat.beq p.2.length 1) = true) (hX : ParOK P fn X) : ParOK P fn (parIf p c X) :=
  ⟨fun env he => bookIf_ok (FC.bookOK hc hs he (hX.book env he)) (hX.book env he), hX.loops, hX.rows, hX.gen⟩
def bt0T : VT := (.ite (.cmp .gtr (.var 0) (.lit 0)) (.leaf (.agg [(.int .i64 (.op .sub (.lit 0) (.app 1 [(.op .sub (.lit 0) (.op .mul (.var 2) (.var 1))), (.var 0)]))), (.int .i64 (.app 1 [(.op .sub (.op .mul (.op .add (.var 3) (.lit 1)) (.var 1)) (.lit 1)), (.var 0)]))])) (.ite (.cmp .leq (.var 2) (.lit 0)) (.ite (.cmp .leq (.lit 0) (.var 3)) (.leaf (.agg [(.int .i64 (.lit (-1152921504606846976))), (.int .i64 (.lit 1152921504606846976))])) (.leaf (.agg [(.int .i64 (.lit 1152921504606846976)), (.int .i64 (.lit (-1152921504606846976)))]))) (.leaf (.agg [(.int .i64 (.lit 1152921504606846976)), (.int .i64 (.lit (-1152921504606846976)))]))))
theorem bt0_ok {fn : Nat → List Int → Int} (h : GoodF fn) : (btFC 0).OK Try.prog fn := by
  refine FC.ok_num (X := Xf) (d := 0) (n := 100000) (t := bt0T) mixD (Xf_ok h) rfl (by kernel_rfl) (by kernel_rfl) fun r hw hpre => ?_
  obtain ⟨xs0, r0, rfl, w0, _, hw0⟩ := hw
  obtain ⟨xs1, r1, rfl, w1, _, hw1⟩ := hw0
  obtain ⟨xs2, r2, rfl, w2, _, hw2⟩ := hw1
  obtain rfl : r2 = [] := hw2
  obtain ⟨k, rfl, hk⟩ := wfI1 w0
  obtain ⟨n, rfl, hn⟩ := wfI1 w1
  obtain ⟨l, u, rfl, hl, hu⟩ := wfI2 w2
  clear w0 w1 w2
  replace hpre : ∀ x, x ∈ btP 0 → x.den _ = true := hpre
  simp only [btP, bet, List.mem_append, List.mem_cons, List.not_mem_nil, or_false, forall_eq_or_imp, forall_eq, or_imp, forall_and, den_lit, den_var, den_ite, den_cmp, den_cmpB, den_tst, den_tstF, den_negT, den_negF, den_andT, den_andF, lssT, leqT, gtrT, geqT, eqlT, neqT, lssF, leqF, gtrF, geqF, eqlF, neqF, den_app, den_nilL, den_consL, den_add, den_sub, den_mul, den_tdiv, den_tmod, den_mx, den_mn, den_blit, den_bin, binI, env_v, env_f, List.flatten_cons, List.flatten_nil, List.append_nil, List.cons_append, List.nil_append, List.getD_cons_zero, List.getD_cons_succ, List.getD_nil] at hpre
  refine ⟨by simp [btFC], ?_, ?_⟩
  · intro x hm
    have B := bt_bd (k := k) (n := n) (l := l) (h := u) (by omega) (by omega) (by omega)
    simp only [btFC, List.mem_cons, List.not_mem_nil, or_false] at hm
    rcases hm with rfl | rfl <;> simp only [btA, btB, den_lit, den_var, den_ite, den_cmp, den_cmpB, den_tst, den_tstF, den_negT, den_negF, den_andT, den_andF, lssT, leqT, gtrT, geqT, eqlT, neqT, lssF, leqF, gtrF, geqF, eqlF, neqF, den_app, den_nilL, den_consL, den_add, den_sub, den_mul, den_tdiv, den_tmod, den_mx, den_mn, den_blit, den_bin, binI, env_v, env_f, List.flatten_cons, List.flatten_nil, List.append_nil, List.cons_append, List.nil_append, List.getD_cons_zero, List.getD_cons_succ, List.getD_nil, q3 h, q4 h] <;> omega
  · clear hk hn hl hu
    simp only [bt0T, btFC, btA, btB, VT.holds, SV.eqv, SV.eqvL, den_lit, den_var, den_ite, den_cmp, den_cmpB, den_tst, den_tstF, den_negT, den_negF, den_andT, den_andF, lssT, leqT, gtrT, geqT, eqlT, neqT, lssF, leqF, gtrF, geqF, eqlF, neqF, den_app, den_nilL, den_consL, den_add, den_sub, den_mul, den_tdiv, den_tmod, den_mx, den_mn, den_blit, den_bin, binI, env_v, env_f, List.flatten_cons, List.flatten_nil, List.append_nil, List.cons_append, List.nil_append, List.getD_cons_zero, List.getD_cons_succ, List.getD_nil, q1 h, q3 h, q4 h, true_and, and_true]
    unfold btL btH
    repeat' (first | apply And.intro | intro _)
    all_goals first
      | omega
      | (rw [if_neg (by omega), if_pos (by omega)]; done)
      | (rw [if_neg (by omega), if_neg (by omega), if_pos (by omega)]; done)
      | (rw [if_neg (by omega), if_neg (by omega), if_neg (by omega)]; done)
      | (rw [if_neg (by omega), if_pos (by omega), if_pos (by omega)]; done)
      | (rw [if_neg (by omega), if_pos (by omega), if_pos (by omega)]; omega)
theorem X0_ok {fn : Nat → List Int → Int} (h : GoodF fn) : ParOK Try.prog fn X0 := parIf_ok (bt0_ok h) rfl (Xf_ok h)
def bt1T : VT := (.ite (.cmp .lss (.var 0) (.lit 0)) (.leaf (.agg [(.int .i64 (.op .sub (.lit 0) (.app 4 [(.op .sub (.lit 0) (.var 0)), (.var 1), (.var 2), (.var 3)]))), (.int .i64 (.op .sub (.lit 0) (.app 3 [(.op .sub (.lit 0) (.var 0)), (.var 1), (.var 2), (.var 3)])))])) (.ite (.cmp .gtr (.var 0) (.lit 0)) (.leaf (.agg [(.int .i64 (.op .sub (.lit 0) (.app 1 [(.op .sub (.lit 0) (.op .mul (.var 2) (.var 1))), (.var 0)]))), (.int .i64 (.app 1 [(.op .sub (.op .mul (.op .add (.var 3) (.lit 1)) (.var 1)) (.lit 1)), (.var 0)]))])) (.ite (.cmp .leq (.var 2) (.lit 0)) (.ite (.cmp .leq (.lit 0) (.var 3)) (.leaf (.agg [(.int .i64 (.lit (-1152921504606846976))), (.int .i64 (.lit 1152921504606846976))])) (.leaf (.agg [(.int .i64 (.lit 1152921504606846976)), (.int .i64 (.lit (-1152921504606846976)))]))) (.leaf (.agg [(.int .i64 (.lit 1152921504606846976)), (.int .i64 (.lit (-1152921504606846976)))])))))
theorem bt1_ok {fn : Nat → List Int → Int} (h : GoodF fn) : (btFC (-68719476736)).OK Try.prog fn := by
  refine FC.ok_num (X := X0) (d := 0) (n := 100000) (t := bt1T) mixD (X0_ok h) rfl (by kernel_rfl) (by kernel_rfl) fun r hw hpre => ?_
  obtain ⟨xs0, r0, rfl, w0, _, hw0⟩ := hw
  obtain ⟨xs1, r1, rfl, w1, _, hw1⟩ := hw0
  obtain ⟨xs2, r2, rfl, w2, _, hw2⟩ := hw1
  obtain rfl : r2 = [] := hw2
  obtain ⟨k, rfl, hk⟩ := wfI1 w0
  obtain ⟨n, rfl, hn⟩ := wfI1 w1
  obtain ⟨l, u, rfl, hl, hu⟩ := wfI2 w2
  clear w0 w1 w2
  replace hpre : ∀ x, x ∈ btP (-68719476736) → x.den _ = true := hpre
  simp only [btP, bet, List.mem_append, List.mem_cons, List.not_mem_nil, or_false, forall_eq_or_imp, forall_eq, or_imp, forall_and, den_lit, den_var, den_ite, den_cmp, den_cmpB, den_tst, den_tstF, den_negT, den_negF, den_andT, den_andF, lssT, leqT, gtrT, geqT, eqlT, neqT, lssF, leqF, gtrF, geqF, eqlF, neqF, den_app, den_nilL, den_consL, den_add, den_sub, den_mul, den_tdiv, den_tmod, den_mx, den_mn, den_blit, den_bin, binI, env_v, env_f, List.flatten_cons, List.flatten_nil, List.append_nil, List.cons_append, List.nil_append, List.getD_cons_zero, List.getD_cons_succ, List.getD_nil] at hpre
  refine ⟨by simp [btFC], ?_, ?_⟩
  · intro x hm
    have B := bt_bd (k := k) (n := n) (l := l) (h := u) (by omega) (by omega) (by omega)
    simp only [btFC, List.mem_cons, List.not_mem_nil, or_false] at hm
    rcases hm with rfl | rfl <;> simp only [btA, btB, den_lit, den_var, den_ite, den_cmp, den_cmpB, den_tst, den_tstF, den_negT, den_negF, den_andT, den_andF, lssT, leqT, gtrT, geqT, eqlT, neqT, lssF, leqF, gtrF, geqF, eqlF, neqF, den_app, den_nilL, den_consL, den_add, den_sub, den_mul, den_tdiv, den_tmod, den_mx, den_mn, den_blit, den_bin, binI, env_v, env_f, List.flatten_cons, List.flatten_nil, List.append_nil, List.cons_append, List.nil_append, List.getD_cons_zero, List.getD_cons_succ, List.getD_nil, q3 h, q4 h] <;> omega
  · clear hk hn hl hu
    simp only [bt1T, btFC, btA, btB, VT.holds, SV.eqv, SV.eqvL, den_lit, den_var, den_ite, den_cmp, den_cmpB, den_tst, den_tstF, den_negT, den_negF, den_andT, den_andF, lssT, leqT, gtrT, geqT, eqlT, neqT, lssF, leqF, gtrF, geqF, eqlF, neqF, den_app, den_nilL, den_consL, den_add, den_sub, den_mul, den_tdiv, den_tmod, den_mx, den_mn, den_blit, den_bin, binI, env_v, env_f, List.flatten_cons, List.flatten_nil, List.append_nil, List.cons_append, List.nil_append, List.getD_cons_zero, List.getD_cons_succ, List.getD_nil, q1 h, q3 h, q4 h, true_and, and_true]
    unfold btL btH
    repeat' (first | apply And.intro | intro _)
    all_goals first
      | omega
      | (rw [if_neg (by omega), if_pos (by omega)]; done)
      | (rw [if_neg (by omega), if_neg (by omega), if_pos (by omega)]; done)
      | (rw [if_neg (by omega), if_neg (by omega), if_neg (by omega)]; done)
      | (rw [if_neg (by omega), if_pos (by omega), if_pos (by omega)]; done)
      | (rw [if_neg (by omega), if_pos (by omega), if_pos (by omega)]; omega)
theorem X1_ok {fn : Nat → List Int → Int} (h : GoodF fn) : ParOK Try.prog fn X1 := FC.parOK (bt1_ok h) rfl (Xf_ok h)
/-! ### the weakening of several currents -/
def waT : VT := (.leaf (.tuple [(.int .i64 (.op .mn (.op .mn (.lit 0) (.app 4 [(.var 0), (.lit 1000), (.op .sub (.app 1 [(.op .mn (.op .mn (.op .mn (.op .mul (.op .mn (.op .mn (.op .mn (.op .mul (.lit 1) (.var 13)) (.op .mul (.lit 1) (.var 14))) (.op .mul (.lit 1) (.var 13))) (.op .mul (.lit 1) (.var 14))) (.op .mul (.var 10) (.var 2))) (.op .mul (.op .mn (.op .mn (.op .mn (.op .mul (.lit 1) (.var 13)) (.op .mul (.lit 1) (.var 14))) (.op .mul (.lit 1) (.var 13))) (.op .mul (.lit 1) (.var 14))) (.op .mul (.var 10) (.var 2)))) (.op .mul (.op .mx (.op .mx (.op .mx (.op .mul (.lit 1) (.var 13)) (.op .mul (.lit 1) (.var 14))) (.op .mul (.lit 1) (.var 13))) (.op .mul (.lit 1) (.var 14))) (.op .mul (.var 10) (.var 2)))) (.op .mul (.op .mx (.op .mx (.op .mx (.op .mul (.lit 1) (.var 13)) (.op .mul (.lit 1) (.var 14))) (.op .mul (.lit 1) (.var 13))) (.op .mul (.lit 1) (.var 14))) (.op .mul (.var 10) (.var 2)))), (.lit 1000000)]) (.var 11)), (.op .add (.app 1 [(.op .mx (.op .mx (.op .mx (.op .mul (.op .mn (.op .mn (.op .mn (.op .mul (.lit 1) (.var 13)) (.op .mul (.lit 1) (.var 14))) (.op .mul (.lit 1) (.var 13))) (.op .mul (.lit 1) (.var 14))) (.op .mul (.var 10) (.var 2))) (.op .mul (.op .mn (.op .mn (.op .mn (.op .mul (.lit 1) (.var 13)) (.op .mul (.lit 1) (.var 14))) (.op .mul (.lit 1) (.var 13))) (.op .mul (.lit 1) (.var 14))) (.op .mul (.var 10) (.var 2)))) (.op .mul (.op .mx (.op .mx (.op .mx (.op .mul (.lit 1) (.var 13)) (.op .mul (.lit 1) (.var 14))) (.op .mul (.lit 1) (.var 13))) (.op .mul (.lit 1) (.var 14))) (.op .mul (.var 10) (.var 2)))) (.op .mul (.op .mx (.op .mx (.op .mx (.op .mul (.lit 1) (.var 13)) (.op .mul (.lit 1) (.var 14))) (.op .mul (.lit 1) (.var 13))) (.op .mul (.lit 1) (.var 14))) (.op .mul (.var 10) (.var 2)))), (.lit 1000000)]) (.var 11))])) (.app 4 [(.op .mul (.var 10) (.var 1)), (.lit 1000000), (.op .sub (.op .sub (.op .sub (.lit 0) (.var 11)) (.app 1 [(.op .mx (.op .mx (.op .mx (.op .mul (.op .mn (.op .mn (.op .mn (.op .mul (.lit 1) (.var 13)) (.op .mul (.lit 1) (.var 14))) (.op .mul (.lit 1) (.var 13))) (.op .mul (.lit 1) (.var 14))) (.var 0)) (.op .mul (.op .mn (.op .mn (.op .mn (.op .mul (.lit 1) (.var 13)) (.op .mul (.lit 1) (.var 14))) (.op .mul (.lit 1) (.var 13))) (.op .mul (.lit 1) (.var 14))) (.var 0))) (.op .mul (.op .mx (.op .mx (.op .mx (.op .mul (.lit 1) (.var 13)) (.op .mul (.lit 1) (.var 14))) (.op .mul (.lit 1) (.var 13))) (.op .mul (.lit 1) (.var 14))) (.var 0))) (.op .mul (.op .mx (.op .mx (.op .mx (.op .mul (.lit 1) (.var 13)) (.op .mul (.lit 1) (.var 14))) (.op .mul (.lit 1) (.var 13))) (.op .mul (.lit 1) (.var 14))) (.var 0))), (.lit 1000)])) (.op .mul (.var 10) (.var 3))), (.op .sub (.op .sub (.var 11) (.app 1 [(.op .mn (.op .mn (.op .mn (.op .mul (.op .mn (.op .mn (.op .mn (.op .mul (.lit 1) (.var 13)) (.op .mul (.lit 1) (.var 14))) (.op .mul (.lit 1) (.var 13))) (.op .mul (.lit 1) (.var 14))) (.var 0)) (.op .mul (.op .mn (.op .mn (.op .mn (.op .mul (.lit 1) (.var 13)) (.op .mul (.lit 1) (.var 14))) (.op .mul (.lit 1) (.var 13))) (.op .mul (.lit 1) (.var 14))) (.var 0))) (.op .mul (.op .mx (.op .mx (.op .mx (.op .mul (.lit 1) (.var 13)) (.op .mul (.lit 1) (.var 14))) (.op .mul (.lit 1) (.var 13))) (.op .mul (.lit 1) (.var 14))) (.var 0))) (.op .mul (.op .mx (.op .mx (.op .mx (.op .mul (.lit 1) (.var 13)) (.op .mul (.lit 1) (.var 14))) (.op .mul (.lit 1) (.var 13))) (.op .mul (.lit 1) (.var 14))) (.var 0))), (.lit 1000)])) (.op .mul (.var 10) (.var 3)))]))), (.bool (.cmp .leq (.op .mx (.op .mx (.op .sub (.lit 0) (.var 12)) (.app 3 [(.var 0), (.lit 1000), (.op .sub (.app 1 [(.op .mn (.op .mn (.op .mn (.op .mul (.op .mn (.op .mn (.op .mn (.op .mul (.lit 1) (.var 13)) (.op .mul (.lit 1) (.var 14))) (.op .mul (.lit 1) (.var 13))) (.op .mul (.lit 1) (.var 14))) (.op .mul (.var 10) (.var 2))) (.op .mul (.op .mn (.op .mn (.op .mn (.op .mul (.lit 1) (.var 13)) (.op .mul (.lit 1) (.var 14))) (.op .mul (.lit 1) (.var 13))) (.op .mul (.lit 1) (.var 14))) (.op .mul (.var 10) (.var 2)))) (.op .mul (.op .mx (.op .mx (.op .mx (.op .mul (.lit 1) (.var 13)) (.op .mul (.lit 1) (.var 14))) (.op .mul (.lit 1) (.var 13))) (.op .mul (.lit 1) (.var 14))) (.op .mul (.var 10) (.var 2)))) (.op .mul (.op .mx (.op .mx (.op .mx (.op .mul (.lit 1) (.var 13)) (.op .mul (.lit 1) (.var 14))) (.op .mul (.lit 1) (.var 13))) (.op .mul (.lit 1) (.var 14))) (.op .mul (.var 10) (.var 2)))), (.lit 1000000)]) (.var 11)), (.op .add (.app 1 [(.op .mx (.op .mx (.op .mx (.op .mul (.op .mn (.op .mn (.op .mn (.op .mul (.lit 1) (.var 13)) (.op .mul (.lit 1) (.var 14))) (.op .mul (.lit 1) (.var 13))) (.op .mul (.lit 1) (.var 14))) (.op .mul (.var 10) (.var 2))) (.op .mul (.op .mn (.op .mn (.op .mn (.op .mul (.lit 1) (.var 13)) (.op .mul (.lit 1) (.var 14))) (.op .mul (.lit 1) (.var 13))) (.op .mul (.lit 1) (.var 14))) (.op .mul (.var 10) (.var 2)))) (.op .mul (.op .mx (.op .mx (.op .mx (.op .mul (.lit 1) (.var 13)) (.op .mul (.lit 1) (.var 14))) (.op .mul (.lit 1) (.var 13))) (.op .mul (.lit 1) (.var 14))) (.op .mul (.var 10) (.var 2)))) (.op .mul (.op .mx (.op .mx (.op .mx (.op .mul (.lit 1) (.var 13)) (.op .mul (.lit 1) (.var 14))) (.op .mul (.lit 1) (.var 13))) (.op .mul (.lit 1) (.var 14))) (.op .mul (.var 10) (.var 2)))), (.lit 1000000)]) (.var 11))])) (.app 3 [(.op .mul (.var 10) (.var 1)), (.lit 1000000), (.op .sub (.op .sub (.op .sub (.lit 0) (.var 11)) (.app 1 [(.op .mx (.op .mx (.op .mx (.op .mul (.op .mn (.op .mn (.op .mn (.op .mul (.lit 1) (.var 13)) (.op .mul (.lit 1) (.var 14))) (.op .mul (.lit 1) (.var 13))) (.op .mul (.lit 1) (.var 14))) (.var 0)) (.op .mul (.op .mn (.op .mn (.op .mn (.op .mul (.lit 1) (.var 13)) (.op .mul (.lit 1) (.var 14))) (.op .mul (.lit 1) (.var 13))) (.op .mul (.lit 1) (.var 14))) (.var 0))) (.op .mul (.op .mx (.op .mx (.op .mx (.op .mul (.lit 1) (.var 13)) (.op .mul (.lit 1) (.var 14))) (.op .mul (.lit 1) (.var 13))) (.op .mul (.lit 1) (.var 14))) (.var 0))) (.op .mul (.op .mx (.op .mx (.op .mx (.op .mul (.lit 1) (.var 13)) (.op .mul (.lit 1) (.var 14))) (.op .mul (.lit 1) (.var 13))) (.op .mul (.lit 1) (.var 14))) (.var 0))), (.lit 1000)])) (.op .mul (.var 10) (.var 3))), (.op .sub (.op .sub (.var 11) (.app 1 [(.op .mn (.op .mn (.op .mn (.op .mul (.op .mn (.op .mn (.op .mn (.op .mul (.lit 1) (.var 13)) (.op .mul (.lit 1) (.var 14))) (.op .mul (.lit 1) (.var 13))) (.op .mul (.lit 1) (.var 14))) (.var 0)) (.op .mul (.op .mn (.op .mn (.op .mn (.op .mul (.lit 1) (.var 13)) (.op .mul (.lit 1) (.var 14))) (.op .mul (.lit 1) (.var 13))) (.op .mul (.lit 1) (.var 14))) (.var 0))) (.op .mul (.op .mx (.op .mx (.op .mx (.op .mul (.lit 1) (.var 13)) (.op .mul (.lit 1) (.var 14))) (.op .mul (.lit 1) (.var 13))) (.op .mul (.lit 1) (.var 14))) (.var 0))) (.op .mul (.op .mx (.op .mx (.op .mx (.op .mul (.lit 1) (.var 13)) (.op .mul (.lit 1) (.var 14))) (.op .mul (.lit 1) (.var 13))) (.op .mul (.lit 1) (.var 14))) (.var 0))), (.lit 1000)])) (.op .mul (.var 10) (.var 3)))])) (.op .mn (.op .mn (.lit 0) (.app 4 [(.var 0), (.lit 1000), (.op .sub (.app 1 [(.op .mn (.op .mn (.op .mn (.op .mul (.op .mn (.op .mn (.op .mn (.op .mul (.lit 1) (.var 13)) (.op .mul (.lit 1) (.var 14))) (.op .mul (.lit 1) (.var 13))) (.op .mul (.lit 1) (.var 14))) (.op .mul (.var 10) (.var 2))) (.op .mul (.op .mn (.op .mn (.op .mn (.op .mul (.lit 1) (.var 13)) (.op .mul (.lit 1) (.var 14))) (.op .mul (.lit 1) (.var 13))) (.op .mul (.lit 1) (.var 14))) (.op .mul (.var 10) (.var 2)))) (.op .mul (.op .mx (.op .mx (.op .mx (.op .mul (.lit 1) (.var 13)) (.op .mul (.lit 1) (.var 14))) (.op .mul (.lit 1) (.var 13))) (.op .mul (.lit 1) (.var 14))) (.op .mul (.var 10) (.var 2)))) (.op .mul (.op .mx (.op .mx (.op .mx (.op .mul (.lit 1) (.var 13)) (.op .mul (.lit 1) (.var 14))) (.op .mul (.lit 1) (.var 13))) (.op .mul (.lit 1) (.var 14))) (.op .mul (.var 10) (.var 2)))), (.lit 1000000)]) (.var 11)), (.op .add (.app 1 [(.op .mx (.op .mx (.op .mx (.op .mul (.op .mn (.op .mn (.op .mn (.op .mul (.lit 1) (.var 13)) (.op .mul (.lit 1) (.var 14))) (.op .mul (.lit 1) (.var 13))) (.op .mul (.lit 1) (.var 14))) (.op .mul (.var 10) (.var 2))) (.op .mul (.op .mn (.op .mn (.op .mn (.op .mul (.lit 1) (.var 13)) (.op .mul (.lit 1) (.var 14))) (.op .mul (.lit 1) (.var 13))) (.op .mul (.lit 1) (.var 14))) (.op .mul (.var 10) (.var 2)))) (.op .mul (.op .mx (.op .mx (.op .mx (.op .mul (.lit 1) (.var 13)) (.op .mul (.lit 1) (.var 14))) (.op .mul (.lit 1) (.var 13))) (.op .mul (.lit 1) (.var 14))) (.op .mul (.var 10) (.var 2)))) (.op .mul (.op .mx (.op .mx (.op .mx (.op .mul (.lit 1) (.var 13)) (.op .mul (.lit 1) (.var 14))) (.op .mul (.lit 1) (.var 13))) (.op .mul (.lit 1) (.var 14))) (.op .mul (.var 10) (.var 2)))), (.lit 1000000)]) (.var 11))])) (.app 4 [(.op .mul (.var 10) (.var 1)), (.lit 1000000), (.op .sub (.op .sub (.op .sub (.lit 0) (.var 11)) (.app 1 [(.op .mx (.op .mx (.op .mx (.op .mul (.op .mn (.op .mn (.op .mn (.op .mul (.lit 1) (.var 13)) (.op .mul (.lit 1) (.var 14))) (.op .mul (.lit 1) (.var 13))) (.op .mul (.lit 1) (.var 14))) (.var 0)) (.op .mul (.op .mn (.op .mn (.op .mn (.op .mul (.lit 1) (.var 13)) (.op .mul (.lit 1) (.var 14))) (.op .mul (.lit 1) (.var 13))) (.op .mul (.lit 1) (.var 14))) (.var 0))) (.op .mul (.op .mx (.op .mx (.op .mx (.op .mul (.lit 1) (.var 13)) (.op .mul (.lit 1) (.var 14))) (.op .mul (.lit 1) (.var 13))) (.op .mul (.lit 1) (.var 14))) (.var 0))) (.op .mul (.op .mx (.op .mx (.op .mx (.op .mul (.lit 1) (.var 13)) (.op .mul (.lit 1) (.var 14))) (.op .mul (.lit 1) (.var 13))) (.op .mul (.lit 1) (.var 14))) (.var 0))), (.lit 1000)])) (.op .mul (.var 10) (.var 3))), (.op .sub (.op .sub (.var 11) (.app 1 [(.op .mn (.op .mn (.op .mn (.op .mul (.op .mn (.op .mn (.op .mn (.op .mul (.lit 1) (.var 13)) (.op .mul (.lit 1) (.var 14))) (.op .mul (.lit 1) (.var 13))) (.op .mul (.lit 1) (.var 14))) (.var 0)) (.op .mul (.op .mn (.op .mn (.op .mn (.op .mul (.lit 1) (.var 13)) (.op .mul (.lit 1) (.var 14))) (.op .mul (.lit 1) (.var 13))) (.op .mul (.lit 1) (.var 14))) (.var 0))) (.op .mul (.op .mx (.op .mx (.op .mx (.op .mul (.lit 1) (.var 13)) (.op .mul (.lit 1) (.var 14))) (.op .mul (.lit 1) (.var 13))) (.op .mul (.lit 1) (.var 14))) (.var 0))) (.op .mul (.op .mx (.op .mx (.op .mx (.op .mul (.lit 1) (.var 13)) (.op .mul (.lit 1) (.var 14))) (.op .mul (.lit 1) (.var 13))) (.op .mul (.lit 1) (.var 14))) (.var 0))), (.lit 1000)])) (.op .mul (.var 10) (.var 3)))]))))]))
theorem dec_ne (p : Prop) [Decidable p] : (decide p) = ((if p then (1 : Int) else 0) != 0) := by by_cases hp : p <;> simp [hp]
theorem tstB (env : Env) (e : E) : (BE.tst e).den env = (e.den env != 0) := rfl
theorem leqB (x y : Int) : cmpI .leq x y = decide (x ≤ y) := rfl
theorem wa_ok {fn : Nat → List Int → Int} (h : GoodF fn) : waFC.OK Try.prog fn := by
  refine FC.ok_num (X := X1) (d := 0) (n := 100000) (t := waT) mixD (X1_ok h) rfl (by kernel_rfl) (by kernel_rfl) fun r hw hpre => ?_
  obtain ⟨xs0, r0, rfl, w0, _, hw0⟩ := hw
  obtain ⟨xs1, r1, rfl, w1, _, hw1⟩ := hw0
  obtain rfl : r1 = [] := hw1
  obtain ⟨R, K, L, F, c, d, e, f, g, i, w, m, b, rfl, hR, hK, hL, hF, hc, hd, he, hf, hg, hi, hw, hm, hb⟩ := wfI13 w0
  obtain ⟨p, z, rfl, hp, hz⟩ := wfI2 w1
  clear w0 w1
  refine ⟨by simp [waFC], ?_, ?_⟩
  · intro x hm
    simp only [waFC, List.mem_singleton] at hm
    subst hm
    simp only [f9, den_lit, den_var, den_ite, den_cmp, den_cmpB, den_tst, den_tstF, den_negT, den_negF, den_andT, den_andF, lssT, leqT, gtrT, geqT, eqlT, neqT, lssF, leqF, gtrF, geqF, eqlF, neqF, den_app, den_nilL, den_consL, den_add, den_sub, den_mul, den_tdiv, den_tmod, den_mx, den_mn, den_blit, den_bin, binI, env_v, env_f, List.flatten_cons, List.flatten_nil, List.append_nil, List.cons_append, List.nil_append, List.getD_cons_zero, List.getD_cons_succ, List.getD_nil, q6 h]
    exact waH_bd
  · simp only [waT, waFC, f9, VT.holds, SV.eqv, SV.eqvL, tstB, den_lit, den_var, den_ite, den_cmp, den_cmpB, den_tst, den_tstF, den_negT, den_negF, den_andT, den_andF, lssT, leqT, gtrT, geqT, eqlT, neqT, lssF, leqF, gtrF, geqF, eqlF, neqF, den_app, den_nilL, den_consL, den_add, den_sub, den_mul, den_tdiv, den_tmod, den_mx, den_mn, den_blit, den_bin, binI, env_v, env_f, List.flatten_cons, List.flatten_nil, List.append_nil, List.cons_append, List.nil_append, List.getD_cons_zero, List.getD_cons_succ, List.getD_nil, q1 h, q3 h, q4 h, q5 h, q6 h, true_and, and_true]
    refine ⟨rfl, ?_⟩
    rw [leqB]
    exact dec_ne (Has R K L F w m b p z)
theorem X2_ok {fn : Nat → List Int → Int} (h : GoodF fn) : ParOK Try.prog fn X2 := FC.parOK (wa_ok h) rfl (FC.parOK (mid_ok h) rfl (X1_ok h))
/-! ### the greatest possible current of a span, by halving -/
def stT0 : VT := (.ite (.neg (.tst (.app 6 [(.var 0), (.var 1), (.var 2), (.var 3), (.var 10), (.var 11), (.var 12), (.var 13), (.var 14)]))) (.leaf (.tuple [(.int .i64 (.lit 0)), (.int .i64 (.lit 0)), (.bool (.lit false))])) (.ite (.cmp .gtr (.bin .add .i64 (.bin .mul .i64 (.app 5 [(.var 0), (.var 1), (.var 2), (.var 3), (.var 10), (.var 11), (.var 12), (.var 13), (.var 14)]) (.app 5 [(.var 0), (.var 1), (.var 2), (.var 3), (.var 10), (.var 11), (.var 12), (.var 13), (.var 14)])) (.op .mul (.var 13) (.var 13))) (.op .mul (.var 12) (.var 12))) (.leaf (.tuple [(.int .i64 (.lit 0)), (.int .i64 (.lit 0)), (.bool (.lit false))])) (.leaf (.tuple [(.int .i64 (.var 13)), (.int .i64 (.app 5 [(.var 0), (.var 1), (.var 2), (.var 3), (.var 10), (.var 11), (.var 12), (.var 13), (.var 14)])), (.bool (.lit true))]))))
def stT (k : Int) : VT := (.ite (.neg (.tst (.app 6 [(.var 0), (.var 1), (.var 2), (.var 3), (.var 10), (.var 11), (.var 12), (.var 13), (.var 14)]))) (.leaf (.tuple [(.int .i64 (.lit 0)), (.int .i64 (.lit 0)), (.bool (.lit false))])) (.ite (.cmp .gtr (.bin .add .i64 (.bin .mul .i64 (.app 5 [(.var 0), (.var 1), (.var 2), (.var 3), (.var 10), (.var 11), (.var 12), (.var 13), (.var 14)]) (.app 5 [(.var 0), (.var 1), (.var 2), (.var 3), (.var 10), (.var 11), (.var 12), (.var 13), (.var 14)])) (.op .mul (.var 13) (.var 13))) (.op .mul (.var 12) (.var 12))) (.leaf (.tuple [(.int .i64 (.lit 0)), (.int .i64 (.lit 0)), (.bool (.lit false))])) (.ite (.cmp .eql (.var 13) (.var 14)) (.leaf (.tuple [(.int .i64 (.var 13)), (.int .i64 (.app 5 [(.var 0), (.var 1), (.var 2), (.var 3), (.var 10), (.var 11), (.var 12), (.var 13), (.var 14)])), (.bool (.lit true))])) (.need (.cmp .leq (.op .add (.op .tdiv (.op .add (.var 13) (.var 14)) (.lit 2)) (.lit 1)) (.lit 2000)) (.need (.cmp .leq (.op .add (.op .tdiv (.op .add (.var 13) (.var 14)) (.lit 2)) (.lit 1)) (.var 14)) (.need (.cmp .leq (.var 14) (.op .add (.op .add (.op .tdiv (.op .add (.var 13) (.var 14)) (.lit 2)) (.lit 1)) (.lit k))) (.ite (.tst (.app 9 [(.var 0), (.var 1), (.var 2), (.var 3), (.var 10), (.var 11), (.var 12), (.op .add (.op .tdiv (.op .add (.var 13) (.var 14)) (.lit 2)) (.lit 1)), (.var 14)])) (.leaf (.tuple [(.int .i64 (.app 7 [(.var 0), (.var 1), (.var 2), (.var 3), (.var 10), (.var 11), (.var 12), (.op .add (.op .tdiv (.op .add (.var 13) (.var 14)) (.lit 2)) (.lit 1)), (.var 14)])), (.int .i64 (.app 8 [(.var 0), (.var 1), (.var 2), (.var 3), (.var 10), (.var 11), (.var 12), (.op .add (.op .tdiv (.op .add (.var 13) (.var 14)) (.lit 2)) (.lit 1)), (.var 14)])), (.bool (.lit true))])) (.need (.cmp .leq (.var 13) (.op .tdiv (.op .add (.var 13) (.var 14)) (.lit 2))) (.need (.cmp .leq (.op .tdiv (.op .add (.var 13) (.var 14)) (.lit 2)) (.op .add (.var 13) (.lit k))) (.leaf (.tuple [(.int .i64 (.app 7 [(.var 0), (.var 1), (.var 2), (.var 3), (.var 10), (.var 11), (.var 12), (.var 13), (.op .tdiv (.op .add (.var 13) (.var 14)) (.lit 2))])), (.int .i64 (.app 8 [(.var 0), (.var 1), (.var 2), (.var 3), (.var 10), (.var 11), (.var 12), (.var 13), (.op .tdiv (.op .add (.var 13) (.var 14)) (.lit 2))])), (.bool (.tst (.app 9 [(.var 0), (.var 1), (.var 2), (.var 3), (.var 10), (.var 11), (.var 12), (.var 13), (.op .tdiv (.op .add (.var 13) (.var 14)) (.lit 2))])))])))))))))))
end Go.Proofs.Ytgbfaomlmpfbfaa
