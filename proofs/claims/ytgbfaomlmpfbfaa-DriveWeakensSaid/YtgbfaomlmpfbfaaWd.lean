/- The loops of the reference: a weakening, and the greatest current, found one by one. -/
import Derived.Test.YtgbfaomlmpfbfaaWc
namespace Go.Proofs.Ytgbfaomlmpfbfaa
open Go Go.SX Go.RowKit WK
set_option linter.unusedVariables false
set_option linter.unusedSimpArgs false
set_option maxRecDepth 100000
def g9 : List E := [.var 0, .var 1, .var 2, .var 3, .var 11, .var 12, .var 13, .var 10, .var 10]
def weP : List BE := moP ++ bet (.var 10) (-1048576) 1048576 ++ bet (.var 11) (-16384) 16384 ++ bet (.var 12) 0 1073741824 ++ bet (.var 13) 0 2000
def loopW (ct : CT) : LC :=
  ⟨14, 1, [(12, .int .i64 (.var 14))], [], [1, 2, 3, 4, 5], [(-2001, 0)], weP ++ ([.cmp .geq (.var 14) (.op .sub (.op .sub (.lit 0) (.var 13)) (.lit 1)), .neg (.and (.tst (.app 6 g9)) (.cmp .lss (.var 14) (.app 5 g9)))] : List BE),
   [⟨.exit 0, 0, [], [], []⟩, ⟨.ret, 1, [(10, .int .i64 (.var 14)), (11, .bool (.lit true))], [], []⟩], ct, [], 20, [], [(.app 20 (.var 14 :: g9), 0, 1), (.app 21 (.var 14 :: g9), -2000, 0)], g9, []⟩
def ctW : CT := (.ite (.cmp .geq (.var 14) (.op .sub (.lit 0) (.var 13))) (.ite (.cmp .geq (.op .add (.op .sub (.lit 0) (.app 1 [(.op .mul (.var 0) (.var 14)), (.lit 1000)])) (.app 1 [(.op .mul (.op .mul (.var 11) (.var 2)) (.var 10)), (.lit 1000000)])) (.op .sub (.lit 0) (.var 12))) (.ite (.cmp .leq (.op .add (.op .sub (.lit 0) (.app 1 [(.op .mul (.var 0) (.var 14)), (.lit 1000)])) (.app 1 [(.op .mul (.op .mul (.var 11) (.var 2)) (.var 10)), (.lit 1000000)])) (.var 12)) (.ite (.cmp .geq (.op .sub (.op .sub (.op .sub (.lit 0) (.app 1 [(.op .mul (.var 0) (.var 10)), (.lit 1000)])) (.app 1 [(.op .mul (.op .mul (.var 11) (.var 1)) (.var 14)), (.lit 1000000)])) (.op .mul (.var 11) (.var 3))) (.op .sub (.lit 0) (.var 12))) (.ite (.cmp .leq (.op .sub (.op .sub (.op .sub (.lit 0) (.app 1 [(.op .mul (.var 0) (.var 10)), (.lit 1000)])) (.app 1 [(.op .mul (.op .mul (.var 11) (.var 1)) (.var 14)), (.lit 1000000)])) (.op .mul (.var 11) (.var 3))) (.var 12)) (.exit 1 [(.var 14)]) (.again [(.op .sub (.var 14) (.lit 1))])) (.again [(.op .sub (.var 14) (.lit 1))])) (.again [(.op .sub (.var 14) (.lit 1))])) (.again [(.op .sub (.var 14) (.lit 1))])) (.exit 0 []))
def LW : LC := loopW ctW
def loopsW : LBook := fun f i => if f == 27 && i == 2 then some (fun _ _ => some LW) else none
def weFC : FC := ⟨27, [sM, sI, sI, sI, sI], .tuple [.int .i64 (.app 22 g9), .bool (.tst (.app 6 g9))], weP, [], [(.app 22 g9, -2000, 0), (.app 6 g9, 0, 1)]⟩
def roomE : E := .app 1 [.op .mul (.var 11) (.lit 26755), .lit 65536]
section
variable (env : Env) (a : Int)
theorem wv0 : (env.upd 14 [a]).v 0 = env.v 0 := rfl
theorem wv1 : (env.upd 14 [a]).v 1 = env.v 1 := rfl
theorem wv2 : (env.upd 14 [a]).v 2 = env.v 2 := rfl
theorem wv3 : (env.upd 14 [a]).v 3 = env.v 3 := rfl
theorem wv4 : (env.upd 14 [a]).v 4 = env.v 4 := rfl
theorem wv5 : (env.upd 14 [a]).v 5 = env.v 5 := rfl
theorem wv6 : (env.upd 14 [a]).v 6 = env.v 6 := rfl
theorem wv7 : (env.upd 14 [a]).v 7 = env.v 7 := rfl
theorem wv8 : (env.upd 14 [a]).v 8 = env.v 8 := rfl
theorem wv9 : (env.upd 14 [a]).v 9 = env.v 9 := rfl
theorem wv10 : (env.upd 14 [a]).v 10 = env.v 10 := rfl
theorem wv11 : (env.upd 14 [a]).v 11 = env.v 11 := rfl
theorem wv12 : (env.upd 14 [a]).v 12 = env.v 12 := rfl
theorem wv13 : (env.upd 14 [a]).v 13 = env.v 13 := rfl
theorem wv14 : (env.upd 14 [a]).v 14 = a := rfl
theorem wvf : (env.upd 14 [a]).f = env.f := rfl
end
/-- what holds at the head, as numbers -/
def HdW (env : Env) (d : Int) : Prop := (0 ≤ env.v 0 ∧ env.v 0 ≤ 1048576) ∧ (1 ≤ env.v 1 ∧ env.v 1 ≤ 4194304) ∧ (1 ≤ env.v 2 ∧ env.v 2 ≤ 4194304) ∧ (0 ≤ env.v 3 ∧ env.v 3 ≤ 4194304) ∧
  (-1048576 ≤ env.v 10 ∧ env.v 10 ≤ 1048576) ∧ (-16384 ≤ env.v 11 ∧ env.v 11 ≤ 16384) ∧ (0 ≤ env.v 12 ∧ env.v 12 ≤ 1073741824) ∧ (0 ≤ env.v 13 ∧ env.v 13 ≤ 2000) ∧ (-2001 ≤ d ∧ d ≤ 0) ∧ 0 - env.v 13 - 1 ≤ d ∧
  (waH (env.v 0) (env.v 1) (env.v 2) (env.v 3) (env.v 11) (env.v 12) (env.v 13) (env.v 10) (env.v 10) = 0 ∨ waD (env.v 0) (env.v 1) (env.v 2) (env.v 3) (env.v 11) (env.v 12) (env.v 13) (env.v 10) (env.v 10) ≤ d)
theorem HdW.iff {env : Env} (h : GoodF env.f) {d : Int} : HeadOK env LW [d] ↔ HdW env d := by
  rw [headOK_iff]
  simp only [LW, loopW, weP, moP, g9, bet, rngsP, factsP, List.cons_append, List.nil_append, den_lit, den_var, den_ite, den_cmp, den_cmpB, den_tst, den_tstF, den_negT, den_negF, den_andT, den_andF, lssT, leqT, gtrT, geqT, eqlT, neqT, lssF, leqF, gtrF, geqF, eqlF, neqF, den_app, den_nilL, den_consL, den_add, den_sub, den_mul, den_tdiv, den_tmod, den_mx, den_mn, den_blit, den_bin, binI, wv0, wv1, wv2, wv3, wv4, wv5, wv6, wv7, wv8, wv9, wv10, wv11, wv12, wv13, wv14, wvf, q5 h, q6 h, and_true]
  unfold HdW
  omega
theorem ctW_ev {env : Env} (h : GoodF env.f) {d : Int} (hd : HdW env d) :
    (0 - env.v 13 ≤ d ∧ Fits (env.v 0) (env.v 1) (env.v 2) (env.v 3) (env.v 11) (env.v 12) d (env.v 10) ∧ ctW.ev (env.upd 14 [d]) = some (2, [d])) ∨
    (0 - env.v 13 ≤ d ∧ ¬ Fits (env.v 0) (env.v 1) (env.v 2) (env.v 3) (env.v 11) (env.v 12) d (env.v 10) ∧ ctW.ev (env.upd 14 [d]) = some (0, [d - 1])) ∨
    (¬ 0 - env.v 13 ≤ d ∧ ctW.ev (env.upd 14 [d]) = some (1, [])) := by
  simp only [ctW, ct_ite, ct_need, ct_again, ct_exit, den_lit, den_var, den_ite, den_cmp, den_cmpB, den_tst, den_tstF, den_negT, den_negF, den_andT, den_andF, lssT, leqT, gtrT, geqT, eqlT, neqT, lssF, leqF, gtrF, geqF, eqlF, neqF, den_app, den_nilL, den_consL, den_add, den_sub, den_mul, den_tdiv, den_tmod, den_mx, den_mn, den_blit, den_bin, binI, wv0, wv1, wv2, wv3, wv4, wv5, wv6, wv7, wv8, wv9, wv10, wv11, wv12, wv13, wv14, wvf, q1 h]
  unfold Fits vD vQ
  generalize env.v 0 * d / 1000 = x1
  generalize env.v 11 * env.v 2 * env.v 10 / 1000000 = x2
  generalize env.v 0 * env.v 10 / 1000 = x3
  generalize env.v 11 * env.v 1 * d / 1000000 = x4
  generalize env.v 11 * env.v 3 = x5
  by_cases h0 : 0 - env.v 13 ≤ d
  · rw [if_pos (by omega)]
    by_cases h1 : (0 - env.v 12 ≤ 0 - x1 + x2 ∧ 0 - x1 + x2 ≤ env.v 12) ∧ 0 - env.v 12 ≤ 0 - x3 - x4 - x5 ∧ 0 - x3 - x4 - x5 ≤ env.v 12
    · left
      rw [if_pos (by omega), if_pos (by omega), if_pos (by omega), if_pos (by omega)]
      exact ⟨h0, h1, rfl⟩
    · right; left
      refine ⟨h0, h1, ?_⟩
      repeat' split
      all_goals first | rfl | (exfalso; apply h1; refine ⟨⟨?_, ?_⟩, ?_, ?_⟩ <;> omega)
  · right; right
    rw [if_neg (by omega)]
    exact ⟨h0, rfl⟩
theorem LW_runs {env : Env} (h : GoodF env.f) : ∀ (n : Nat) {d : Int}, HdW env d → (d + env.v 13 + 1).toNat ≤ n →
    (waH (env.v 0) (env.v 1) (env.v 2) (env.v 3) (env.v 11) (env.v 12) (env.v 13) (env.v 10) (env.v 10) ≠ 0 → Runs env LW [d] 1 [waD (env.v 0) (env.v 1) (env.v 2) (env.v 3) (env.v 11) (env.v 12) (env.v 13) (env.v 10) (env.v 10)]) ∧ (waH (env.v 0) (env.v 1) (env.v 2) (env.v 3) (env.v 11) (env.v 12) (env.v 13) (env.v 10) (env.v 10) = 0 → Runs env LW [d] 0 [])
  | n, d, hd, hn => by
      have hh := (HdW.iff h).2 hd
      have hd0 := hd
      unfold HdW at hd0
      obtain ⟨g0, g1, g2, g3, g4, g5, g6, g7, g8, g9, g10⟩ := hd0
      rcases ctW_ev h hd with ⟨e1, e2, e3⟩ | ⟨e1, e2, e3⟩ | ⟨e1, e3⟩
      · have hH : Has (env.v 0) (env.v 1) (env.v 2) (env.v 3) (env.v 11) (env.v 12) (env.v 13) (env.v 10) (env.v 10) := by
          by_cases hH : Has (env.v 0) (env.v 1) (env.v 2) (env.v 3) (env.v 11) (env.v 12) (env.v 13) (env.v 10) (env.v 10)
          · exact hH
          · exact absurd e2 (no_fits (b := env.v 13) (by omega) hH (by omega) (by omega))
        have hf := (fits_iff (b := env.v 13) (by omega) (by omega) (by omega)).1 e2
        have ed : waD (env.v 0) (env.v 1) (env.v 2) (env.v 3) (env.v 11) (env.v 12) (env.v 13) (env.v 10) (env.v 10) = d := by
          rcases g10 with g10 | g10
          · exact absurd hH (waH_no.1 g10)
          · unfold waD at g10 ⊢; omega
        refine ⟨fun _ => ?_, fun h0 => absurd hH (waH_no.1 h0)⟩
        rw [ed]
        exact .exit hh e3
      · have hnew : HdW env (d - 1) := by
          unfold HdW
          refine ⟨g0, g1, g2, g3, g4, g5, g6, g7, by omega, by omega, ?_⟩
          by_cases hH : Has (env.v 0) (env.v 1) (env.v 2) (env.v 3) (env.v 11) (env.v 12) (env.v 13) (env.v 10) (env.v 10)
          · right
            have hf := (has_fits (b := env.v 13) (by omega) hH).1
            rcases g10 with g10 | g10
            · exact absurd hH (waH_no.1 g10)
            · unfold waD at g10 ⊢
              by_cases hq : wHi (env.v 0) (env.v 1) (env.v 2) (env.v 3) (env.v 11) (env.v 12) (env.v 13) (env.v 10) (env.v 10) = d
              · rw [hq] at hf; exact absurd hf e2
              · omega
          · left; exact waH_no.2 hH
        cases n with
        | zero => omega
        | succ n =>
          obtain ⟨r1, r2⟩ := LW_runs h n hnew (by omega)
          exact ⟨fun x => .again hh e3 (r1 x), fun x => .again hh e3 (r2 x)⟩
      · refine ⟨fun x => ?_, fun _ => .exit hh e3⟩
        have hH := waH_iff.1 x
        have := has_bd hH
        rcases g10 with g10 | g10
        · exact absurd g10 x
        · unfold waD at g10; omega
theorem LW_ok {env : Env} (h : GoodF env.f) : LoopOK env LW := by
  intro xs hl hh _
  obtain ⟨d, rfl⟩ := len1 hl
  have hd := (HdW.iff h).1 hh
  obtain ⟨r1, r2⟩ := LW_runs h _ hd (Nat.le_refl _)
  have hb : 0 ≤ env.v 13 ∧ env.v 13 ≤ 2000 := by unfold HdW at hd; omega
  have eK : env.f LW.K ([d] ++ denL env LW.ex) = waH (env.v 0) (env.v 1) (env.v 2) (env.v 3) (env.v 11) (env.v 12) (env.v 13) (env.v 10) (env.v 10) := by
    show env.f 20 (d :: denL env g9) = _
    simp only [g9, den_nilL, den_consL, den_var]
    exact q20 h ..
  have eV : env.f (LW.K + 1 + 0) ([d] ++ denL env LW.ex) = waZ (env.v 0) (env.v 1) (env.v 2) (env.v 3) (env.v 11) (env.v 12) (env.v 13) (env.v 10) (env.v 10) := by
    show env.f 21 (d :: denL env g9) = _
    simp only [g9, den_nilL, den_consL, den_var]
    exact q21 h ..
  have pr : (∀ x, x ∈ LW.post → x.den (env.upd LW.base [d]) = true) ∧ ∀ e lo hi, (e, lo, hi) ∈ LW.prng → lo ≤ e.den (env.upd LW.base [d]) ∧ e.den (env.upd LW.base [d]) ≤ hi := by
    refine ⟨by simp [LW, loopW], fun e lo hi hm => ?_⟩
    have z1 := waZ_bd (R := env.v 0) (K := env.v 1) (L := env.v 2) (F := env.v 3) (w := env.v 11) (m := env.v 12) (b := env.v 13) (p := env.v 10) (q := env.v 10) hb.1
    have z2 := waH_bd (R := env.v 0) (K := env.v 1) (L := env.v 2) (F := env.v 3) (w := env.v 11) (m := env.v 12) (b := env.v 13) (p := env.v 10) (q := env.v 10)
    simp only [LW, loopW, List.mem_cons, List.not_mem_nil, or_false] at hm
    rcases hm with hm | hm <;> cases hm <;> simp only [LW, loopW, g9, den_lit, den_var, den_ite, den_cmp, den_cmpB, den_tst, den_tstF, den_negT, den_negF, den_andT, den_andF, lssT, leqT, gtrT, geqT, eqlT, neqT, lssF, leqF, gtrF, geqF, eqlF, neqF, den_app, den_nilL, den_consL, den_add, den_sub, den_mul, den_tdiv, den_tmod, den_mx, den_mn, den_blit, den_bin, binI, wv0, wv1, wv2, wv3, wv4, wv5, wv6, wv7, wv8, wv9, wv10, wv11, wv12, wv13, wv14, wvf, q20 h, q21 h] <;> omega
  by_cases hH : waH (env.v 0) (env.v 1) (env.v 2) (env.v 3) (env.v 11) (env.v 12) (env.v 13) (env.v 10) (env.v 10) = 0
  · refine ⟨0, [], _, r2 hH, rfl, by rw [eK, hH]; rfl, fun i hi => absurd hi (by decide +revert), pr.1, pr.2⟩
  · have e1 : waH (env.v 0) (env.v 1) (env.v 2) (env.v 3) (env.v 11) (env.v 12) (env.v 13) (env.v 10) (env.v 10) = 1 := by
      have := waH_bd (R := env.v 0) (K := env.v 1) (L := env.v 2) (F := env.v 3) (w := env.v 11) (m := env.v 12) (b := env.v 13) (p := env.v 10) (q := env.v 10)
      omega
    refine ⟨1, _, _, r1 hH, rfl, by rw [eK, e1]; rfl, fun i hi => ?_, pr.1, pr.2⟩
    obtain rfl : i = 0 := by
      have : i < 1 := hi
      omega
    rw [eV]
    unfold waZ
    rw [if_pos (waH_iff.1 hH)]
    rfl
def XW : Par := { Xf with loops := loopsW }
theorem XW_ok {fn : Nat → List Int → Int} (h : GoodF fn) : ParOK Try.prog fn XW :=
  ⟨(Xf_ok h).book, (by
    intro env he f i g hg tm s L hL
    have hf : GoodF env.f := by rw [he]; exact h
    simp only [XW, loopsW] at hg
    split at hg
    · cases hg; cases hL; exact LW_ok hf
    · cases hg), (Xf_ok h).rows, (Xf_ok h).gen⟩
def weT : VT := (.need (.neg (.and (.tst (.app 6 [(.var 0), (.var 1), (.var 2), (.var 3), (.var 11), (.var 12), (.var 13), (.var 10), (.var 10)])) (.cmp .lss (.lit 0) (.app 5 [(.var 0), (.var 1), (.var 2), (.var 3), (.var 11), (.var 12), (.var 13), (.var 10), (.var 10)])))) (.ite (.cmp .eql (.app 20 [(.lit 0), (.var 0), (.var 1), (.var 2), (.var 3), (.var 11), (.var 12), (.var 13), (.var 10), (.var 10)]) (.lit 0)) (.leaf (.tuple [(.int .i64 (.lit 0)), (.bool (.lit false))])) (.leaf (.tuple [(.int .i64 (.app 21 [(.lit 0), (.var 0), (.var 1), (.var 2), (.var 3), (.var 11), (.var 12), (.var 13), (.var 10), (.var 10)])), (.bool (.lit true))]))))
theorem we_ok {fn : Nat → List Int → Int} (h : GoodF fn) : weFC.OK Try.prog fn := by
  refine FC.ok_num (X := XW) (d := 0) (n := 100000) (t := weT) mixD (XW_ok h) rfl (by kernel_rfl) (by kernel_rfl) fun r hw hpre => ?_
  obtain ⟨xs0, r0, rfl, w0, _, hw0⟩ := hw
  obtain ⟨xs1, r1, rfl, w1, _, hw1⟩ := hw0
  obtain ⟨xs2, r2, rfl, w2, _, hw2⟩ := hw1
  obtain ⟨xs3, r3, rfl, w3, _, hw3⟩ := hw2
  obtain ⟨xs4, r4, rfl, w4, _, hw4⟩ := hw3
  obtain rfl : r4 = [] := hw4
  obtain ⟨R, K, L, F, c, d, e, f, g, i, rfl, hR, hK, hL, hF, hc, hd, he, hf, hg, hi⟩ := wfI10 w0
  obtain ⟨q, rfl, hq⟩ := wfI1 w1
  obtain ⟨w, rfl, hw⟩ := wfI1 w2
  obtain ⟨m, rfl, hm⟩ := wfI1 w3
  obtain ⟨b, rfl, hb⟩ := wfI1 w4
  clear w0 w1 w2 w3 w4
  replace hpre : ∀ x, x ∈ weP → x.den _ = true := hpre
  simp only [weP, moP, bet, List.mem_append, List.mem_cons, List.not_mem_nil, or_false, forall_eq_or_imp, forall_eq, or_imp, forall_and, den_lit, den_var, den_ite, den_cmp, den_cmpB, den_tst, den_tstF, den_negT, den_negF, den_andT, den_andF, lssT, leqT, gtrT, geqT, eqlT, neqT, lssF, leqF, gtrF, geqF, eqlF, neqF, den_app, den_nilL, den_consL, den_add, den_sub, den_mul, den_tdiv, den_tmod, den_mx, den_mn, den_blit, den_bin, binI, env_v, env_f, List.flatten_cons, List.flatten_nil, List.append_nil, List.cons_append, List.nil_append, List.getD_cons_zero, List.getD_cons_succ, List.getD_nil] at hpre
  clear hR hK hL hF hc hd he hf hg hi hq hw hm hb
  have z1 := waZ_bd (R := R) (K := K) (L := L) (F := F) (w := w) (m := m) (b := b) (p := q) (q := q) (by omega)
  have z2 := waH_bd (R := R) (K := K) (L := L) (F := F) (w := w) (m := m) (b := b) (p := q) (q := q)
  refine ⟨by simp [weFC], ?_, ?_⟩
  · intro x hm
    simp only [weFC, List.mem_cons, List.not_mem_nil, or_false] at hm
    rcases hm with rfl | rfl <;> simp only [g9, den_lit, den_var, den_ite, den_cmp, den_cmpB, den_tst, den_tstF, den_negT, den_negF, den_andT, den_andF, lssT, leqT, gtrT, geqT, eqlT, neqT, lssF, leqF, gtrF, geqF, eqlF, neqF, den_app, den_nilL, den_consL, den_add, den_sub, den_mul, den_tdiv, den_tmod, den_mx, den_mn, den_blit, den_bin, binI, env_v, env_f, List.flatten_cons, List.flatten_nil, List.append_nil, List.cons_append, List.nil_append, List.getD_cons_zero, List.getD_cons_succ, List.getD_nil, q22 h, q6 h] <;> omega
  · simp only [weT, weFC, g9, VT.holds, SV.eqv, SV.eqvL, tstB, den_lit, den_var, den_ite, den_cmp, den_cmpB, den_tst, den_tstF, den_negT, den_negF, den_andT, den_andF, lssT, leqT, gtrT, geqT, eqlT, neqT, lssF, leqF, gtrF, geqF, eqlF, neqF, den_app, den_nilL, den_consL, den_add, den_sub, den_mul, den_tdiv, den_tmod, den_mx, den_mn, den_blit, den_bin, binI, env_v, env_f, List.flatten_cons, List.flatten_nil, List.append_nil, List.cons_append, List.nil_append, List.getD_cons_zero, List.getD_cons_succ, List.getD_nil, q5 h, q6 h, q20 h, q21 h, q22 h, true_and, and_true, bne_iff_ne, bne_eq_false_iff_eq, ne_eq]
    refine ⟨?_, fun h0 => ?_, fun h0 => ?_⟩
    · by_cases hH : Has R K L F w m b q q
      · right
        have := has_bd hH
        unfold waD; omega
      · left; exact waH_no.2 hH
    · rw [h0]
      unfold waZ
      rw [if_neg (waH_no.1 h0)]
      exact ⟨rfl, rfl⟩
    · rw [show waH R K L F w m b q q = 1 by omega]
      rfl
end Go.Proofs.Ytgbfaomlmpfbfaa
