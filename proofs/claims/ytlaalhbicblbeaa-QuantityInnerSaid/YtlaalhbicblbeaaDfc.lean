/- The contract of the reference's Down, for the reckoner. -/
import Derived.Test.YtlaalhbicblbeaaSy24
import Derived.Test.YtlaalhbicblbeaaRows
import Derived.Test.YtlaalhbicblbeaaRm
import Derived.Test.YtlaalhbicblbeaaWhl
namespace Go.Proofs.Ytlaalhbicblbeaa
open Go Go.SX Go.RowKit
set_option linter.unusedVariables false
set_option linter.unusedSimpArgs false

def dSig : List (Bool × List (Option IntKind)) := [(false, [some .i64]), (false, [some .i64]), (false, [some .i64])]
theorem wfd {r : List (List Int)} (h : wfAll dSig r) : ∃ x n d, r = [[x], [n], [d]] := by
  obtain ⟨xs, r1, rfl, hw, _, ys, r2, rfl, hw2, _, zs, r3, rfl, hw3, _, e⟩ := h
  obtain ⟨x, _, rfl, x1, ex⟩ := hw
  obtain ⟨n, _, rfl, n1, en⟩ := hw2
  obtain ⟨d, _, rfl, d1, ed⟩ := hw3
  rw [show _ = ([] : List Int) from ex, show _ = ([] : List Int) from en, show _ = ([] : List Int) from ed, show r3 = [] from e]
  exact ⟨x, n, d, rfl⟩
def dnE : E := .app 3 [.var 0, .var 1, .var 2]
def lims (e : E) : List BE := [.cmp .geq e (.lit (-9000000000000)), .cmp .leq e (.lit 9000000000000)]
def downFC : FC := ⟨79, dSig, .int .i64 dnE, lims (.var 0) ++ lims (.var 1) ++ lims (.var 2) ++ [.cmp .neq (.var 2) (.lit 0)], [], [(dnE, -1152921504606846977, 1152921504606846977)]⟩
theorem downFC_ok {qfn : Nat → List Int → Int} (hq : ∀ x n d, qfn 3 [x, n, d] = QM.dn x n d) : downFC.OK Try.prog qfn := by
  refine ⟨rfl, by kernel_rfl, fun r hr hpre => ?_⟩
  obtain ⟨x, n, d, rfl⟩ := wfd hr
  have n1 := hpre (.cmp .geq (.var 0) (.lit (-9000000000000))) (by simp [downFC, lims])
  have n2 := hpre (.cmp .leq (.var 0) (.lit 9000000000000)) (by simp [downFC, lims])
  have n3 := hpre (.cmp .geq (.var 1) (.lit (-9000000000000))) (by simp [downFC, lims])
  have n4 := hpre (.cmp .leq (.var 1) (.lit 9000000000000)) (by simp [downFC, lims])
  have n5 := hpre (.cmp .geq (.var 2) (.lit (-9000000000000))) (by simp [downFC, lims])
  have n6 := hpre (.cmp .leq (.var 2) (.lit 9000000000000)) (by simp [downFC, lims])
  have n7 := hpre (.cmp .neq (.var 2) (.lit 0)) (by simp [downFC, lims])
  replace n1 := of_decide_eq_true n1
  replace n2 := of_decide_eq_true n2
  replace n3 := of_decide_eq_true n3
  replace n4 := of_decide_eq_true n4
  replace n5 := of_decide_eq_true n5
  replace n6 := of_decide_eq_true n6
  rw [den_cmpB] at n7
  simp only [neqT, den_var, den_lit, env_v, List.flatten_cons, List.flatten_nil, List.append_nil, List.cons_append, List.nil_append, List.getD_cons_zero, List.getD_cons_succ] at n1 n2 n3 n4 n5 n6 n7
  refine ⟨fun be hm => by simp [downFC] at hm, ?_, fun w => ?_⟩
  · intro e lo hi hm
    simp only [downFC, List.mem_singleton, Prod.mk.injEq] at hm
    obtain ⟨rfl, rfl, rfl⟩ := hm
    simp only [dnE, den_app, den_nilL, den_consL, den_var, env_v, env_f, hq, List.flatten_cons, List.flatten_nil, List.append_nil, List.cons_append, List.nil_append, List.getD_cons_zero, List.getD_cons_succ]
    exact QM.dn_bd n7
  · refine (Down_any x n d w n1 n2 n3 n4 n5 n6 n7).mono ?_
    rintro e w' ⟨rfl, rfl⟩
    refine ⟨_, rfl, fun ρ => ?_, Below.refl _ _⟩
    simp only [downFC, dnE, Rep, den_app, den_nilL, den_consL, den_var, env_v, env_f, hq, List.flatten_cons, List.flatten_nil, List.append_nil, List.cons_append, List.nil_append, List.getD_cons_zero, List.getD_cons_succ]
end Go.Proofs.Ytlaalhbicblbeaa
