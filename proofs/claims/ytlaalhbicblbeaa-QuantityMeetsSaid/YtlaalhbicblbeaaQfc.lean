/- Contracts of the small functions of the laws over small spans. -/
import Derived.Test.YtlaalhbicblbeaaRows
import Derived.Test.YtlaalhbicblbeaaSy24
namespace Go.Proofs.Ytlaalhbicblbeaa
open Go Go.SX Go.RowKit
set_option linter.unusedVariables false
set_option linter.unusedSimpArgs false

theorem mixed : Try.prog.follows .mixedOrders = true := by kernel_rfl
def hiF (a b : Int) : Int := if b < 0 then a + (0 - (b + 1)) else a + b
def numF (a b c : Int) : Int := a + c % (hiF a b - a + 1)
def sfn : Nat → List Int → Int
  | 10, [a, b] => hiF a b
  | 11, [a, b, c] => numF a b c
  | _, _ => 0
theorem joinPar_ok (fn : Nat → List Int → Int) : ParOK Try.prog fn joinPar := ⟨fun env _ => noBook_ok _ _, fun env _ f i g h => by cases h⟩
def sig3 : List (Bool × List (Option IntKind)) := [(true, [some .i16, some .i16, some .u16])]
def hiE : E := .app 10 [.var 0, .var 1]
def numE : E := .app 11 [.var 0, .var 1, .var 2]
theorem wf3 {r : List (List Int)} (h : wfAll sig3 r) : ∃ a b c, r = [[a, b, c]] ∧ (-32768 ≤ a ∧ a ≤ 32767) ∧ (-32768 ≤ b ∧ b ≤ 32767) ∧ (0 ≤ c ∧ c ≤ 65535) := by
  obtain ⟨xs, r', rfl, hw, _, e⟩ := h
  obtain ⟨a, _, rfl, a1, b, _, rfl, b1, c, _, rfl, c1, e'⟩ := hw
  obtain rfl : r' = [] := e
  rw [show _ = ([] : List Int) from e']
  exact ⟨a, b, c, rfl, wf_rng (a1 _ rfl), wf_rng (b1 _ rfl), wf_rng (c1 _ rfl)⟩
theorem hi_bd {a b : Int} (h1 : -32768 ≤ a ∧ a ≤ 32767) (h2 : -32768 ≤ b ∧ b ≤ 32767) : a ≤ hiF a b ∧ hiF a b ≤ a + 32767 := by
  unfold hiF; split <;> omega
theorem num_bd {a b c : Int} (h1 : -32768 ≤ a ∧ a ≤ 32767) (h2 : -32768 ≤ b ∧ b ≤ 32767) (h3 : 0 ≤ c) : a ≤ numF a b c ∧ numF a b c ≤ hiF a b := by
  have h := hi_bd h1 h2
  unfold numF
  generalize hiF a b = p at *
  have g1 := Int.emod_nonneg c (b := p - a + 1) (by omega)
  have g2 := Int.emod_lt_of_pos c (b := p - a + 1) (by omega)
  omega
def spanFC : FC := ⟨61, sig3, .agg [.int .i64 (.var 0), .int .i64 hiE], [], [.cmp .leq (.var 0) hiE], [(hiE, -32768, 65534)]⟩
def numFC : FC := ⟨62, sig3, .int .i64 numE, [], [.cmp .leq (.var 0) numE, .cmp .leq numE hiE], [(numE, -32768, 65534)]⟩
def worksFC : FC := ⟨21, [], .bool (.lit true), [], [], []⟩
def spanVT : VT := .leaf (.agg [(.int .i64 (.var 0)), (.int .i64 (.ite (.cmp .lss (.var 1) (.lit 0)) (.op .add (.var 0) (.op .sub (.lit 0) (.op .add (.var 1) (.lit 1)))) (.op .add (.var 0) (.var 1))))])
def numVT : VT := .leaf (.int .i64 (.bin .add .i64 (.var 0) (.op .tmod (.var 2) (.op .add (.op .sub (.app 10 [(.var 0), (.var 1)]) (.var 0)) (.lit 1)))))
set_option maxRecDepth 100000 in
theorem spanFC_ok : spanFC.OK Try.prog sfn := by
  refine FC.ok_run (X := joinPar) (d := 5) (n := 1000) (t := spanVT) mixed (joinPar_ok sfn) rfl (by kernel_rfl) (by kernel_rfl) fun r hw _ => ?_
  obtain ⟨a, b, c, rfl, h1, h2, h3⟩ := wf3 hw
  have e := hi_bd h1 h2
  refine ⟨?_, ?_, ?_⟩
  · intro be hm
    simp only [spanFC, List.mem_singleton] at hm
    subst hm
    simp only [den_cmpB, leqT, hiE, den_app, den_nilL, den_consL, den_var, env_v, env_f, sfn, List.flatten_cons, List.flatten_nil, List.append_nil, List.getD_cons_zero, List.getD_cons_succ]
    omega
  · intro e0 lo hi hm
    simp only [spanFC, List.mem_singleton, Prod.mk.injEq] at hm
    obtain ⟨rfl, rfl, rfl⟩ := hm
    simp only [hiE, den_app, den_nilL, den_consL, den_var, env_v, env_f, sfn, List.flatten_cons, List.flatten_nil, List.append_nil, List.getD_cons_zero, List.getD_cons_succ]
    omega
  · intro ρ ρ' V hV
    obtain ⟨vs, ⟨v1, r1, e1, ⟨v2, r2, e2, e3, rfl⟩, rfl⟩, rfl⟩ := hV
    refine ⟨_, ⟨v1, _, e1, ⟨v2, _, ?_, e3, rfl⟩, rfl⟩, rfl⟩
    rw [show v2 = _ from e2]
    simp only [Rep, den_ite, den_cmp, lssT, den_add, den_sub, den_lit, den_var, hiE, den_app, den_nilL, den_consL, env_v, env_f, sfn, hiF, List.flatten_cons, List.flatten_nil, List.append_nil, List.getD_cons_zero, List.getD_cons_succ]
    split <;> split <;> first | rfl | (exfalso; omega) | (congr 2; omega)
def spPar : Par := spanFC.par joinPar
theorem spPar_ok : ParOK Try.prog sfn spPar := FC.parOK spanFC_ok rfl (joinPar_ok sfn)
set_option maxRecDepth 100000 in
theorem numFC_ok : numFC.OK Try.prog sfn := by
  refine FC.ok_run (X := spPar) (d := 5) (n := 1000) (t := numVT) mixed spPar_ok rfl (by kernel_rfl) (by kernel_rfl) fun r hw _ => ?_
  obtain ⟨a, b, c, rfl, h1, h2, h3⟩ := wf3 hw
  have e := hi_bd h1 h2
  have e4 := num_bd h1 h2 h3.1
  refine ⟨?_, ?_, ?_⟩
  · intro be hm
    simp only [numFC, List.mem_cons, List.not_mem_nil, or_false] at hm
    rcases hm with rfl | rfl <;>
    · simp only [den_cmpB, leqT, hiE, numE, den_app, den_nilL, den_consL, den_var, env_v, env_f, sfn, List.flatten_cons, List.flatten_nil, List.append_nil, List.getD_cons_zero, List.getD_cons_succ]
      omega
  · intro e0 lo hi hm
    simp only [numFC, List.mem_singleton, Prod.mk.injEq] at hm
    obtain ⟨rfl, rfl, rfl⟩ := hm
    simp only [numE, den_app, den_nilL, den_consL, den_var, env_v, env_f, sfn, List.flatten_cons, List.flatten_nil, List.append_nil, List.getD_cons_zero, List.getD_cons_succ]
    omega
  · intro ρ ρ' V hV
    rw [show V = _ from hV]
    simp only [numFC, Rep, den_bin, binI, den_tmod, den_add, den_sub, den_lit, den_var, numE, den_app, den_nilL, den_consL, env_v, env_f, sfn, List.flatten_cons, List.flatten_nil, List.append_nil, List.getD_cons_zero, List.getD_cons_succ]
    rw [Int.tmod_eq_emod_of_nonneg h3.1, wrap_i64]
    · rfl
    · simp only [numF] at e4; omega
    · simp only [numF] at e4; omega
def nmPar : Par := numFC.par spPar
theorem nmPar_ok : ParOK Try.prog sfn nmPar := FC.parOK numFC_ok rfl spPar_ok
set_option maxRecDepth 100000 in
theorem worksFC_ok : worksFC.OK Try.prog sfn := by
  refine FC.ok_run (X := joinPar) (d := 1) (n := 100000) (t := .leaf (.bool (.lit true))) mixed (joinPar_ok sfn) rfl (by kernel_rfl) (by kernel_rfl) fun r hw _ => ⟨?_, ?_, ?_⟩
  · intro be hm; simp [worksFC] at hm
  · intro e0 lo hi hm; simp [worksFC] at hm
  · intro ρ ρ' V hV; exact hV
def smallPar : Par := worksFC.par nmPar
theorem smallPar_ok : ParOK Try.prog sfn smallPar := FC.parOK worksFC_ok rfl nmPar_ok
end Go.Proofs.Ytlaalhbicblbeaa
