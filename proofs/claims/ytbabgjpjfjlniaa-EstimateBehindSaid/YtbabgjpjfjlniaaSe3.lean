/- Contracts of the sensors' functions, the program's and the reference's. -/
import Derived.Test.YtbabgjpjfjlniaaSy25
import Derived.Test.YtbabgjpjfjlniaaChecked
import Derived.KernelRfl
import Derived.Test.YtbabgjpjfjlniaaSe8
namespace Go.Proofs.Ytbabgjpjfjlniaa
open Go Go.SX Go.RowKit SE
set_option linter.unusedVariables false
set_option linter.unusedSimpArgs false
set_option maxRecDepth 100000

theorem mixed : Try.prog.follows .mixedOrders = true := by kernel_rfl
open Classical in
noncomputable def sfn : Nat → List Int → Int
  | 1, [n, d] => n / d
  | 2, [N, S, L, M] => chk N S L M
  | 3, [N, S, L, M, x, z] => shV N S L M x z
  | 4, [N, S, L, M, x, z] => shE N S L M x z
  | 5, [N, S, L, M, r] => bLo N S L M r
  | 6, [N, S, L, M, r] => bHi N S L M r
  | 7, [N, S, L, M, r] => bE N S L M r
  | 11, [lo, hi, N, S, L, M, r] => max lo (min hi (c1 N S L M r))
  | 13, [lo, hi, N, S, L, M, r] => max lo (min hi (c2 N S L M r))
  | 21, [n, f, b, y, N, S, L, W, r] => if f ≠ 0 ∨ ∃ m, n ≤ m ∧ m ≤ N ∧ shV N (1 + S) L (L + W) y m = r then 1 else 0
  | _, _ => 0
open Classical in
theorem sfn21 (n f b y N S L W r : Int) : sfn 21 [n, f, b, y, N, S, L, W, r] = if f ≠ 0 ∨ ∃ m, n ≤ m ∧ m ≤ N ∧ shV N (1 + S) L (L + W) y m = r then 1 else 0 := rfl
theorem sfn20 (l : List Int) : sfn 20 l = 0 := rfl
theorem sfn1 (n d : Int) : sfn 1 [n, d] = n / d := rfl
theorem sfn2 (N S L M : Int) : sfn 2 [N, S, L, M] = chk N S L M := rfl
theorem sfn3 (N S L M x z : Int) : sfn 3 [N, S, L, M, x, z] = shV N S L M x z := rfl
theorem sfn4 (N S L M x z : Int) : sfn 4 [N, S, L, M, x, z] = shE N S L M x z := rfl
theorem sfn5 (N S L M r : Int) : sfn 5 [N, S, L, M, r] = bLo N S L M r := rfl
theorem sfn6 (N S L M r : Int) : sfn 6 [N, S, L, M, r] = bHi N S L M r := rfl
theorem sfn7 (N S L M r : Int) : sfn 7 [N, S, L, M, r] = bE N S L M r := rfl
theorem sfn11 (lo hi N S L M r : Int) : sfn 11 [lo, hi, N, S, L, M, r] = max lo (min hi (c1 N S L M r)) := rfl
theorem sfn13 (lo hi N S L M r : Int) : sfn 13 [lo, hi, N, S, L, M, r] = max lo (min hi (c2 N S L M r)) := rfl
attribute [irreducible] sfn
theorem joinPar_ok (fn : Nat → List Int → Int) : ParOK Try.prog fn joinPar := ⟨fun env _ => noBook_ok _ _, fun env _ f i g h => by cases h⟩
theorem noPar_ok (fn : Nat → List Int → Int) : ParOK Try.prog fn noPar := ⟨fun env _ => noBook_ok _ _, fun env _ f i g h => by cases h⟩

def sSig : List (Bool × List (Option IntKind)) := [(true, [some .i64, some .i64, some .i64, some .i64]), (false, [some .i64])]
def six : List (Bool × List (Option IntKind)) := [(true, [some .i64, some .i64, some .i64, some .i64]), (false, [some .i64]), (false, [some .i64])]
def lims (e : E) (a b : Int) : List BE := [.cmp .geq e (.lit a), .cmp .leq e (.lit b)]
def flE : E := .app 1 [.var 0, .var 1]
def flFC (f : Nat) : FC := ⟨f, [(false, [some .i64]), (false, [some .i64])], .int .i64 flE, lims (.var 0) (-17592186044416) 17592186044416 ++ lims (.var 1) 1 4294967296,
  [.cmp .leq (.op .mul (.var 1) flE) (.var 0), .cmp .lss (.var 0) (.op .add (.op .mul (.var 1) flE) (.var 1))], [(flE, -17592186044416, 17592186044416), (.op .mul (.var 1) flE, -35184372088832, 35184372088832)]⟩
def chkE : E := .app 2 [.var 0, .var 1, .var 2, .var 3]
def chkFC (f : Nat) : FC := ⟨f, [(true, [some .i64, some .i64, some .i64, some .i64])], .int .i64 chkE, [], [], []⟩

theorem wf2 {r : List (List Int)} (h : wfAll [(false, [some .i64]), (false, [some .i64])] r) : ∃ a b, r = [[a], [b]] ∧ (-9223372036854775808 ≤ a ∧ a ≤ 9223372036854775807) ∧ (-9223372036854775808 ≤ b ∧ b ≤ 9223372036854775807) := by
  obtain ⟨xs, r1, rfl, hw, _, ys, r2, rfl, hw2, _, e⟩ := h
  obtain ⟨x, _, rfl, x1, ex⟩ := hw
  obtain ⟨n, _, rfl, n1, en⟩ := hw2
  rw [show _ = ([] : List Int) from ex, show _ = ([] : List Int) from en, show r2 = [] from e]
  exact ⟨x, n, rfl, wf_rng (x1 _ rfl), wf_rng (n1 _ rfl)⟩
theorem wf4 {xs : List Int} (h : wfL [some .i64, some .i64, some .i64, some .i64] xs) : ∃ a b c d, xs = [a, b, c, d] ∧ (-9223372036854775808 ≤ a ∧ a ≤ 9223372036854775807) ∧ (-9223372036854775808 ≤ b ∧ b ≤ 9223372036854775807) ∧ (-9223372036854775808 ≤ c ∧ c ≤ 9223372036854775807) ∧ (-9223372036854775808 ≤ d ∧ d ≤ 9223372036854775807) := by
  obtain ⟨a, _, rfl, a1, b, _, rfl, b1, c, _, rfl, c1, d, _, rfl, d1, e⟩ := h
  rw [show _ = ([] : List Int) from e]
  exact ⟨a, b, c, d, rfl, wf_rng (a1 _ rfl), wf_rng (b1 _ rfl), wf_rng (c1 _ rfl), wf_rng (d1 _ rfl)⟩
theorem wf1 {xs : List Int} (h : wfL [some .i64] xs) : ∃ a, xs = [a] ∧ (-9223372036854775808 ≤ a ∧ a ≤ 9223372036854775807) := by
  obtain ⟨a, _, rfl, a1, e⟩ := h
  rw [show _ = ([] : List Int) from e]
  exact ⟨a, rfl, wf_rng (a1 _ rfl)⟩

def flT : VT := (.leaf (.int .i64 (.ite (.cmp .lss (.op .tmod (.var 0) (.var 1)) (.lit 0)) (.bin .sub .i64 (.bin .quo .i64 (.var 0) (.var 1)) (.lit 1)) (.bin .quo .i64 (.var 0) (.var 1)))))
theorem flFC_ok (f : Nat) (hf : (run (callT Try.prog joinPar 1000 f (symAll (flFC 0).sig 0) (ctxF (flFC 0).sig ((flFC 0).pre.map (·, true)) 5)) st0).vt = flT) (he : (entered Try.prog f).isSome = true) : (flFC f).OK Try.prog sfn := by
  refine FC.ok_eqv (X := joinPar) (d := 5) (n := 1000) (t := flT) mixed (joinPar_ok sfn) rfl he hf fun r hw hpre => ?_
  obtain ⟨n, d, rfl, h1, h2⟩ := wf2 hw
  have q1 := hpre (.cmp .geq (.var 0) (.lit (-17592186044416))) (by simp [flFC, lims])
  have q2 := hpre (.cmp .leq (.var 0) (.lit 17592186044416)) (by simp [flFC, lims])
  have q3 := hpre (.cmp .geq (.var 1) (.lit 1)) (by simp [flFC, lims])
  have q4 := hpre (.cmp .leq (.var 1) (.lit 4294967296)) (by simp [flFC, lims])
  simp only [den_lit, den_var, den_ite, den_cmp, den_cmpB, den_tst, den_tstF, den_negT, den_negF, den_andT, den_andF, lssT, leqT, gtrT, geqT, eqlT, neqT, lssF, leqF, gtrF, geqF, eqlF, neqF, den_app, den_nilL, den_consL, den_add, den_sub, den_mul, den_tdiv, den_tmod, den_mx, den_mn, env_v, env_f, List.flatten_cons, List.flatten_nil, List.append_nil, List.cons_append, List.nil_append, List.getD_cons_zero, List.getD_cons_succ, List.getD_nil] at q1 q2 q3 q4
  have f := fl_mul n q3
  have b1 : -17592186044416 ≤ n / d := by rw [le_fl _ _ q3]; have := Int.mul_le_mul_of_nonneg_right (show (1 : Int) ≤ d by omega) (show (0 : Int) ≤ 17592186044416 by omega); omega
  have b2 : n / d ≤ 17592186044416 := by
    refine Int.not_lt.1 fun hn => ?_
    have := (le_fl n 17592186044417 q3).1 (by omega)
    omega
  refine ⟨?_, ?_, ?_⟩
  · intro be hm
    simp only [flFC, List.mem_cons, List.not_mem_nil, or_false] at hm
    rcases hm with rfl | rfl
    · simp only [flE, den_lit, den_var, den_ite, den_cmp, den_cmpB, den_tst, den_tstF, den_negT, den_negF, den_andT, den_andF, lssT, leqT, gtrT, geqT, eqlT, neqT, lssF, leqF, gtrF, geqF, eqlF, neqF, den_app, den_nilL, den_consL, den_add, den_sub, den_mul, den_tdiv, den_tmod, den_mx, den_mn, env_v, env_f, List.flatten_cons, List.flatten_nil, List.append_nil, List.cons_append, List.nil_append, List.getD_cons_zero, List.getD_cons_succ, List.getD_nil, sfn1]; omega
    · simp only [flE, den_lit, den_var, den_ite, den_cmp, den_cmpB, den_tst, den_tstF, den_negT, den_negF, den_andT, den_andF, lssT, leqT, gtrT, geqT, eqlT, neqT, lssF, leqF, gtrF, geqF, eqlF, neqF, den_app, den_nilL, den_consL, den_add, den_sub, den_mul, den_tdiv, den_tmod, den_mx, den_mn, env_v, env_f, List.flatten_cons, List.flatten_nil, List.append_nil, List.cons_append, List.nil_append, List.getD_cons_zero, List.getD_cons_succ, List.getD_nil, sfn1]; omega
  · intro p hm
    simp only [flFC, List.mem_cons, List.not_mem_nil, or_false] at hm
    rcases hm with rfl | rfl
    · simp only [flE, den_lit, den_var, den_ite, den_cmp, den_cmpB, den_tst, den_tstF, den_negT, den_negF, den_andT, den_andF, lssT, leqT, gtrT, geqT, eqlT, neqT, lssF, leqF, gtrF, geqF, eqlF, neqF, den_app, den_nilL, den_consL, den_add, den_sub, den_mul, den_tdiv, den_tmod, den_mx, den_mn, env_v, env_f, List.flatten_cons, List.flatten_nil, List.append_nil, List.cons_append, List.nil_append, List.getD_cons_zero, List.getD_cons_succ, List.getD_nil, sfn1]; omega
    · simp only [flE, den_lit, den_var, den_ite, den_cmp, den_cmpB, den_tst, den_tstF, den_negT, den_negF, den_andT, den_andF, lssT, leqT, gtrT, geqT, eqlT, neqT, lssF, leqF, gtrF, geqF, eqlF, neqF, den_app, den_nilL, den_consL, den_add, den_sub, den_mul, den_tdiv, den_tmod, den_mx, den_mn, env_v, env_f, List.flatten_cons, List.flatten_nil, List.append_nil, List.cons_append, List.nil_append, List.getD_cons_zero, List.getD_cons_succ, List.getD_nil, sfn1]; omega
  · have e := tdiv_fl (n := n) q3
    have w1 : IntKind.i64.wrap (n.tdiv d) = n.tdiv d := wrap_i64 (by split at e <;> omega) (by split at e <;> omega)
    simp only [flT, flFC, VT.holds, SV.eqv, flE, den_bin, binI, den_lit, den_var, den_ite, den_cmp, den_cmpB, den_tst, den_tstF, den_negT, den_negF, den_andT, den_andF, lssT, leqT, gtrT, geqT, eqlT, neqT, lssF, leqF, gtrF, geqF, eqlF, neqF, den_app, den_nilL, den_consL, den_add, den_sub, den_mul, den_tdiv, den_tmod, den_mx, den_mn, env_v, env_f, List.flatten_cons, List.flatten_nil, List.append_nil, List.cons_append, List.nil_append, List.getD_cons_zero, List.getD_cons_succ, List.getD_nil, sfn1, w1]
    refine ⟨trivial, ?_⟩
    by_cases hm : n.tmod d < 0
    · rw [if_pos hm] at e
      rw [if_pos hm, if_neg (by decide), wrap_i64 (by omega) (by omega)]
      exact e
    · rw [if_neg hm] at e
      rw [if_neg hm, if_pos rfl]
      exact e
end Go.Proofs.Ytbabgjpjfjlniaa
