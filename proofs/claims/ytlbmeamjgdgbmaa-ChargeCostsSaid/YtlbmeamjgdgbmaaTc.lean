/- What the laws about tariffs ask. -/
import Derived.Test.YtlbmeamjgdgbmaaTb
namespace Go.Proofs.Ytlbmeamjgdgbmaa
open Go Go.SX Go.RowKit
set_option linter.unusedVariables false
set_option linter.unusedSimpArgs false
set_option maxRecDepth 100000
set_option maxHeartbeats 4000000
def vtT : VT := (.ite (.neg (.cmp .leq (.var 1) (.lit 100))) (.leaf (.bool (.lit true))) (.ite (.neg (.tst (.app 61 [(.var 0), (.var 1), (.var 2)]))) (.ite (.cmp .neq (.app 60 [(.var 0), (.var 1), (.var 2)]) (.lit 0)) (.ite (.cmp .eql (.lit 2) (.app 60 [(.var 0), (.var 1), (.var 2)])) (.leaf (.bool (.lit true))) (.leaf (.bool (.lit false)))) (.ite (.cmp .geq (.var 3) (.lit 0)) (.ite (.neg (.cmp .leq (.var 3) (.lit 1099511627776))) (.leaf (.bool (.lit false))) .fail) (.leaf (.bool (.lit false))))) (.ite (.cmp .leq (.lit 0) (.var 3)) (.ite (.neg (.cmp .leq (.var 3) (.lit 1099511627776))) (.ite (.cmp .neq (.app 60 [(.var 0), (.var 1), (.var 2)]) (.lit 0)) (.leaf (.bool (.lit false))) (.leaf (.bool (.lit true)))) (.ite (.cmp .neq (.app 60 [(.var 0), (.var 1), (.var 2)]) (.lit 0)) (.ite (.cmp .leq (.lit 0) (.var 4)) (.ite (.neg (.cmp .leq (.var 4) (.lit 1099511627776))) (.leaf (.bool (.lit false))) (.ite (.cmp .leq (.lit 0) (.var 5)) (.ite (.neg (.cmp .leq (.var 5) (.lit 1099511627776))) (.leaf (.bool (.lit false))) (.leaf (.bool (.lit false)))) (.leaf (.bool (.lit false))))) (.leaf (.bool (.lit false)))) (.ite (.cmp .leq (.lit 0) (.var 4)) (.ite (.neg (.cmp .leq (.var 4) (.lit 1099511627776))) (.leaf (.bool (.lit true))) (.ite (.cmp .leq (.lit 0) (.var 5)) (.ite (.neg (.cmp .leq (.var 5) (.lit 1099511627776))) (.leaf (.bool (.lit true))) (.leaf (.bool (.lit true)))) (.leaf (.bool (.lit true))))) (.leaf (.bool (.lit true)))))) (.ite (.cmp .neq (.app 60 [(.var 0), (.var 1), (.var 2)]) (.lit 0)) (.leaf (.bool (.lit false))) (.leaf (.bool (.lit true)))))))
def vtC : VT := (.ite (.neg (.cmp .leq (.var 1) (.lit 100))) (.leaf (.bool (.lit true))) (.ite (.cmp .neq (.app 60 [(.var 0), (.var 1), (.var 2)]) (.lit 0)) (.leaf (.bool (.lit true))) (.ite (.neg (.tst (.app 61 [(.var 0), (.var 1), (.var 2)]))) (.leaf (.bool (.lit false))) (.ite (.cmp .lss (.op .sub (.op .tdiv (.op .mul (.op .add (.var 4) (.var 5)) (.app 72 [(.var 0), (.var 1), (.var 3)])) (.lit 3600000)) (.op .tdiv (.op .mul (.lit 0) (.app 73 [(.var 0), (.var 1), (.var 3)])) (.lit 3600000))) (.op .add (.op .sub (.op .tdiv (.op .mul (.var 4) (.app 72 [(.var 0), (.var 1), (.var 3)])) (.lit 3600000)) (.op .tdiv (.op .mul (.lit 0) (.app 73 [(.var 0), (.var 1), (.var 3)])) (.lit 3600000))) (.op .sub (.op .tdiv (.op .mul (.var 5) (.app 72 [(.var 0), (.var 1), (.var 3)])) (.lit 3600000)) (.op .tdiv (.op .mul (.lit 0) (.app 73 [(.var 0), (.var 1), (.var 3)])) (.lit 3600000))))) (.leaf (.bool (.lit false))) (.ite (.cmp .gtr (.op .sub (.op .tdiv (.op .mul (.op .add (.var 4) (.var 5)) (.app 72 [(.var 0), (.var 1), (.var 3)])) (.lit 3600000)) (.op .tdiv (.op .mul (.lit 0) (.app 73 [(.var 0), (.var 1), (.var 3)])) (.lit 3600000))) (.op .add (.op .add (.op .sub (.op .tdiv (.op .mul (.var 4) (.app 72 [(.var 0), (.var 1), (.var 3)])) (.lit 3600000)) (.op .tdiv (.op .mul (.lit 0) (.app 73 [(.var 0), (.var 1), (.var 3)])) (.lit 3600000))) (.op .sub (.op .tdiv (.op .mul (.var 5) (.app 72 [(.var 0), (.var 1), (.var 3)])) (.lit 3600000)) (.op .tdiv (.op .mul (.lit 0) (.app 73 [(.var 0), (.var 1), (.var 3)])) (.lit 3600000)))) (.lit 1))) (.leaf (.bool (.lit false))) (.ite (.cmp .gtr (.var 0) (.lit 4294967296)) (.leaf (.bool (.lit true))) (.need (.cmp .neq (.var 0) (.lit 0)) (.ite (.cmp .leq (.lit 0) (.bin .add .i64 (.op .tmod (.var 3) (.var 0)) (.bin .mul .i64 (.var 0) (.var 6)))) (.ite (.neg (.cmp .leq (.bin .add .i64 (.op .tmod (.var 3) (.var 0)) (.bin .mul .i64 (.var 0) (.var 6))) (.lit 1099511627776))) (.leaf (.bool (.lit false))) (.ite (.cmp .eql (.app 72 [(.var 0), (.var 1), (.var 3)]) (.app 72 [(.var 0), (.var 1), (.bin .add .i64 (.op .tmod (.var 3) (.var 0)) (.bin .mul .i64 (.var 0) (.var 6)))])) (.ite (.cmp .eql (.app 73 [(.var 0), (.var 1), (.var 3)]) (.app 73 [(.var 0), (.var 1), (.bin .add .i64 (.op .tmod (.var 3) (.var 0)) (.bin .mul .i64 (.var 0) (.var 6)))])) (.leaf (.bool (.lit true))) (.leaf (.bool (.lit false)))) (.leaf (.bool (.lit false))))) (.leaf (.bool (.lit false)))))))))))
open Classical in
theorem t_core {env : Env} (h : Good env.f) : vtT.holds env (yes env) := by
  have yl : ∀ (x : Bool), yes env (.bool (.lit x)) = (x = true) := fun _ => rfl
  have e60 : env.f 60 [env.v 0, env.v 1, env.v 2] = if tarOk env.f (env.v 0) (env.v 1) (env.v 2) then 0 else 2 := h.h60 ..
  have e61 : env.f 61 [env.v 0, env.v 1, env.v 2] = if tarOk env.f (env.v 0) (env.v 1) (env.v 2) then 1 else 0 := h.h61 ..
  simp only [vtT, VT.holds, den_lit, den_var, den_ite, den_cmp, den_cmpB, den_tst, den_tstF, den_negT, den_negF, den_andT, den_andF, lssT, leqT, gtrT, geqT, eqlT, neqT, lssF, leqF, gtrF, geqF, eqlF, neqF, den_app, den_nilL, den_consL, den_add, den_sub, den_mul, den_tdiv, den_tmod, den_mx, den_mn, den_blit, den_bin, binI, yl]
  by_cases ht : tarOk env.f (env.v 0) (env.v 1) (env.v 2)
  · rw [if_pos ht] at e60 e61
    simp [e60, e61]
  · rw [if_neg ht] at e60 e61
    simp [e60, e61]
theorem q_add {A B : Int} (ha : 0 ≤ A) (hb : 0 ≤ B) : A.tdiv 3600000 + B.tdiv 3600000 ≤ (A + B).tdiv 3600000 ∧ (A + B).tdiv 3600000 ≤ A.tdiv 3600000 + B.tdiv 3600000 + 1 := by
  rw [Int.tdiv_eq_ediv_of_nonneg ha, Int.tdiv_eq_ediv_of_nonneg hb, Int.tdiv_eq_ediv_of_nonneg (by omega)]
  omega
open Classical in
theorem c_core {env : Env} (h : Good env.f) (h3 : 0 ≤ env.v 3) (h4 : 0 ≤ env.v 4 ∧ env.v 4 ≤ 4294967295) (h5 : 0 ≤ env.v 5 ∧ env.v 5 ≤ 4294967295) (h6 : 0 ≤ env.v 6 ∧ env.v 6 ≤ 255) : vtC.holds env (yes env) := by
  have yl : ∀ (x : Bool), yes env (.bool (.lit x)) = (x = true) := fun _ => rfl
  have e60 : env.f 60 [env.v 0, env.v 1, env.v 2] = if tarOk env.f (env.v 0) (env.v 1) (env.v 2) then 0 else 2 := h.h60 ..
  have e61 : env.f 61 [env.v 0, env.v 1, env.v 2] = if tarOk env.f (env.v 0) (env.v 1) (env.v 2) then 1 else 0 := h.h61 ..
  by_cases ht : tarOk env.f (env.v 0) (env.v 1) (env.v 2)
  · rw [if_pos ht] at e60 e61
    have hr := bRn_ok h ht
    have r2 := hr (.app 72 [.var 0, .var 1, .var 3], 0, 1048576) (by simp [bRn])
    have r3 := hr (.app 73 [.var 0, .var 1, .var 3], 0, 1048576) (by simp [bRn])
    have r2' : 0 ≤ env.f 72 [env.v 0, env.v 1, env.v 3] ∧ env.f 72 [env.v 0, env.v 1, env.v 3] ≤ 1048576 := r2
    have r3' : 0 ≤ env.f 73 [env.v 0, env.v 1, env.v 3] ∧ env.f 73 [env.v 0, env.v 1, env.v 3] ≤ 1048576 := r3
    have t1 := ht.1
    have z0 : Int.tdiv 0 3600000 = 0 := rfl
    have key := q_add (A := env.v 4 * env.f 72 [env.v 0, env.v 1, env.v 3]) (B := env.v 5 * env.f 72 [env.v 0, env.v 1, env.v 3]) (Int.mul_nonneg h4.1 r2'.1) (Int.mul_nonneg h5.1 r2'.1)
    simp only [vtC, VT.holds, den_lit, den_var, den_ite, den_cmp, den_cmpB, den_tst, den_tstF, den_negT, den_negF, den_andT, den_andF, lssT, leqT, gtrT, geqT, eqlT, neqT, lssF, leqF, gtrF, geqF, eqlF, neqF, den_app, den_nilL, den_consL, den_add, den_sub, den_mul, den_tdiv, den_tmod, den_mx, den_mn, den_blit, den_bin, binI, yl, e60, e61, Int.zero_mul, z0, Int.sub_zero, Int.add_mul]
    refine ⟨fun _ => trivial, fun _ => ⟨fun hz => absurd rfl hz, fun _ => ⟨fun hz => absurd hz (by decide), fun _ => ⟨fun hz => by omega, fun _ => ⟨fun hz => by omega, fun _ => ⟨fun _ => trivial, fun hd => ⟨by omega, ?_⟩⟩⟩⟩⟩⟩⟩
    have hm : 0 ≤ env.v 0 * env.v 6 ∧ env.v 0 * env.v 6 ≤ env.v 0 * 255 := ⟨Int.mul_nonneg (by omega) h6.1, Int.mul_le_mul_of_nonneg_left h6.2 (by omega)⟩
    have hq : 0 ≤ (env.v 3).tmod (env.v 0) ∧ (env.v 3).tmod (env.v 0) < env.v 0 := ⟨Int.tmod_nonneg _ h3, Int.tmod_lt_of_pos _ (by omega)⟩
    have hmod : ((env.v 3).tmod (env.v 0) + env.v 0 * env.v 6).tmod (env.v 0) = (env.v 3).tmod (env.v 0) := by
      rw [Int.tmod_eq_emod_of_nonneg (show 0 ≤ (env.v 3).tmod (env.v 0) + env.v 0 * env.v 6 by omega), Int.add_mul_emod_self_left, ← Int.tmod_eq_emod_of_nonneg hq.1]
      exact Int.tmod_tmod _ _
    rw [wrap_i64 (n := env.v 0 * env.v 6) (by omega) (by omega), wrap_i64 (by omega) (by omega)]
    rw [h.h72, h.h73, h.h72, h.h73, hmod]
    exact ⟨fun _ => ⟨fun hz => by omega, fun _ => ⟨fun _ => ⟨fun _ => trivial, fun hz => absurd rfl hz⟩, fun hz => absurd rfl hz⟩⟩, fun hz => by omega⟩
  · rw [if_neg ht] at e60 e61
    simp only [vtC, VT.holds, den_lit, den_var, den_ite, den_cmp, den_cmpB, den_tst, den_tstF, den_negT, den_negF, den_andT, den_andF, lssT, leqT, gtrT, geqT, eqlT, neqT, lssF, leqF, gtrF, geqF, eqlF, neqF, den_app, den_nilL, den_consL, den_add, den_sub, den_mul, den_tdiv, den_tmod, den_mx, den_mn, den_blit, den_bin, binI, yl, e60, e61]
    exact ⟨fun _ => trivial, fun _ => ⟨fun _ => trivial, fun hz => absurd hz (by decide)⟩⟩
end Go.Proofs.Ytlbmeamjgdgbmaa
