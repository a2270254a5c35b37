/- Narrowest, for given levels: its loop goes through all bands that are too narrow, and ends at the one that the document names. -/
import Derived.Test.YtfkkimpcemlmcaaSw44
import Derived.Test.YtfkkimpcemlmcaaChecked
namespace Go.Proofs.Ytfkkimpcemlmcaa.packs
open Go Go.SX Go.RowKit
set_option linter.unusedVariables false
set_option linter.unusedSimpArgs false
set_option maxRecDepth 100000
set_option maxHeartbeats 4000000
def vI (n : Nat) : SV := .int .i64 (.var n)
def loopN (ct : CT) : LC := ⟨0, 2, [(8, vI 0), (9, vI 1)], [], [0, 1], [(0, 6), (0, 100)], [.cmp .leq (.op .add (.var 0) (.var 1)) (.lit 100), .cmp .leq (.op .add (.op .mul (.lit 101) (.var 0)) (.var 1)) (.lit 607)],
  [⟨.exit 0, 2, [(8, vI 0), (9, vI 1)], [], []⟩], ct, [.cmp .eql (.var 0) (.lit 0), .cmp .eql (.var 1) (.lit 0)], 20, [], [(.app 21 [.var 0, .var 1], 6, 6), (.app 22 [.var 0, .var 1], 1, 1)], [], []⟩
def XN (ct : CT) : Par := { noPar with loops := fun f i => if f == 20 && i == 7 then some (fun _ _ => some (loopN ct)) else none }
def ctN : CT := (.ite (.cmp .gtr (.op .mx (.lit (-2)) (.op .sub (.lit 9) (.op .add (.var 1) (.var 0)))) (.op .mn (.lit 2) (.op .sub (.lit 9) (.var 1)))) (.ite (.cmp .gtr (.op .add (.op .add (.var 1) (.lit 1)) (.var 0)) (.lit 100)) (.again [(.op .add (.var 0) (.lit 1)), (.lit 0)]) (.again [(.var 0), (.op .add (.var 1) (.lit 1))])) (.ite (.cmp .gtr (.op .mx (.lit (-2)) (.op .sub (.op .add (.op .mx (.lit (-2)) (.op .sub (.lit 9) (.op .add (.var 1) (.var 0)))) (.lit 0)) (.op .add (.var 1) (.var 0)))) (.op .sub (.op .add (.op .mn (.lit 2) (.op .sub (.lit 9) (.var 1))) (.lit 0)) (.var 1))) (.ite (.cmp .gtr (.op .add (.op .add (.var 1) (.lit 1)) (.var 0)) (.lit 100)) (.again [(.op .add (.var 0) (.lit 1)), (.lit 0)]) (.again [(.var 0), (.op .add (.var 1) (.lit 1))])) (.ite (.cmp .gtr (.op .mx (.lit (-2)) (.op .sub (.op .add (.op .mx (.lit (-2)) (.op .sub (.op .add (.op .sub (.lit 9) (.op .add (.var 1) (.var 0))) (.lit 0)) (.op .add (.var 1) (.var 0)))) (.lit 0)) (.op .add (.var 1) (.var 0)))) (.op .sub (.op .add (.op .sub (.lit 2) (.var 1)) (.lit 0)) (.var 1))) (.again [(.var 0), (.op .add (.var 1) (.lit 1))]) (.ite (.cmp .leq (.op .mx (.lit (-2)) (.op .sub (.op .add (.op .mx (.lit (-2)) (.op .sub (.op .add (.op .sub (.lit 9) (.op .add (.var 1) (.var 0))) (.lit 0)) (.op .add (.var 1) (.var 0)))) (.lit 0)) (.op .add (.var 1) (.var 0)))) (.lit 0)) (.ite (.neg (.cmp .leq (.lit 0) (.op .sub (.op .add (.op .sub (.lit 2) (.var 1)) (.lit 0)) (.var 1)))) (.again [(.var 0), (.op .add (.var 1) (.lit 1))]) (.exit 0 [(.var 0), (.var 1)])) (.again [(.var 0), (.op .add (.var 1) (.lit 1))])))))
/-- before the band that is found, or at it -/
def atN (w l : Int) : Prop := 0 ≤ w ∧ w ≤ 6 ∧ 0 ≤ l ∧ l ≤ 100 ∧ w + l ≤ 100 ∧ 101 * w + l ≤ 607
def agN (w l : Int) (xs : List Int) : Prop := (xs = [w + 1, 0] ∧ 100 < l + 1 + w ∧ w < 6) ∨ (xs = [w, l + 1] ∧ l + 1 + w ≤ 100 ∧ 101 * w + l < 607)
def exN (j : Nat) (ys : List Int) : Prop := j = 0 ∧ ys = [6, 1]
theorem agN1 {w l : Int} (h1 : 100 < l + 1 + w) (h2 : w < 6) : agN w l [w + 1, 0] := .inl ⟨rfl, h1, h2⟩
theorem agN2 {w l : Int} (h1 : l + 1 + w ≤ 100) (h2 : 101 * w + l < 607) : agN w l [w, l + 1] := .inr ⟨rfl, h1, h2⟩
theorem exN1 {w l : Int} (h1 : w = 6) (h2 : l = 1) : exN 0 [w, l] := ⟨rfl, by rw [h1, h2]⟩
theorem stepN {env : Env} {w l : Int} (h : atN w l) : CT.step (env.upd 0 [w, l]) (agN w l) exN ctN := by
  have v0 : (env.upd 0 [w, l]).v 0 = w := rfl
  have v1 : (env.upd 0 [w, l]).v 1 = l := rfl
  unfold atN at h
  simp only [ctN, CT.step, den_lit, den_var, den_ite, den_cmp, den_cmpB, den_tst, den_tstF, den_negT, den_negF, den_andT, den_andF, lssT, leqT, gtrT, geqT, eqlT, neqT, lssF, leqF, gtrF, geqF, eqlF, neqF, den_app, den_nilL, den_consL, den_add, den_sub, den_mul, den_tdiv, den_tmod, den_mx, den_mn, den_blit, den_bin, binI, v0, v1]
  refine ⟨fun h1 => ⟨fun g => agN1 ?_ ?_, fun g => agN2 ?_ ?_⟩, fun h1 => ⟨fun h2 => ⟨fun g => agN1 ?_ ?_, fun g => agN2 ?_ ?_⟩, fun h2 => ⟨fun h3 => agN2 ?_ ?_, fun h3 => ⟨fun h4 => ⟨fun h5 => agN2 ?_ ?_, fun h5 => exN1 ?_ ?_⟩, fun h4 => agN2 ?_ ?_⟩⟩⟩⟩ <;> omega
theorem headN {env : Env} {w l : Int} : HeadOK env (loopN ctN) [w, l] ↔ atN w l := by
  have v0 : (env.upd 0 [w, l]).v 0 = w := rfl
  have v1 : (env.upd 0 [w, l]).v 1 = l := rfl
  have f1 : (BE.cmp .leq (.op .add (.var 0) (.var 1)) (.lit 100)).den (env.upd 0 [w, l]) = true ↔ w + l ≤ 100 := by simp only [den_lit, den_var, den_ite, den_cmp, den_cmpB, den_tst, den_tstF, den_negT, den_negF, den_andT, den_andF, lssT, leqT, gtrT, geqT, eqlT, neqT, lssF, leqF, gtrF, geqF, eqlF, neqF, den_app, den_nilL, den_consL, den_add, den_sub, den_mul, den_tdiv, den_tmod, den_mx, den_mn, den_blit, den_bin, binI, v0, v1]
  have f2 : (BE.cmp .leq (.op .add (.op .mul (.lit 101) (.var 0)) (.var 1)) (.lit 607)).den (env.upd 0 [w, l]) = true ↔ 101 * w + l ≤ 607 := by simp only [den_lit, den_var, den_ite, den_cmp, den_cmpB, den_tst, den_tstF, den_negT, den_negF, den_andT, den_andF, lssT, leqT, gtrT, geqT, eqlT, neqT, lssF, leqF, gtrF, geqF, eqlF, neqF, den_app, den_nilL, den_consL, den_add, den_sub, den_mul, den_tdiv, den_tmod, den_mx, den_mn, den_blit, den_bin, binI, v0, v1]
  rw [headOK_iff]
  show ((0 ≤ w ∧ w ≤ 6) ∧ (0 ≤ l ∧ l ≤ 100) ∧ True) ∧ ((BE.cmp .leq (.op .add (.var 0) (.var 1)) (.lit 100)).den (env.upd 0 [w, l]) = true ∧ (BE.cmp .leq (.op .add (.op .mul (.lit 101) (.var 0)) (.var 1)) (.lit 607)).den (env.upd 0 [w, l]) = true ∧ True) ↔ atN w l
  rw [f1, f2]
  unfold atN
  exact ⟨fun h => ⟨h.1.1.1, h.1.1.2, h.1.2.1.1, h.1.2.1.2, h.2.1, h.2.2.1⟩, fun h => ⟨⟨⟨h.1, h.2.1⟩, ⟨h.2.2.1, h.2.2.2.1⟩, trivial⟩, h.2.2.2.2.1, h.2.2.2.2.2, trivial⟩⟩
theorem runsN {env : Env} : ∀ (q : Nat) (w l : Int), atN w l → (607 - (101 * w + l)).toNat ≤ q → Runs env (loopN ctN) [w, l] 0 [6, 1]
  | q, w, l, h, hq => by
    have hh : HeadOK env (loopN ctN) [w, l] := headN.2 h
    have st := stepN (env := env) h
    unfold atN at h
    rcases CT.step_ev st with ⟨xs, e, ⟨rfl, a, b⟩ | ⟨rfl, a, b⟩⟩ | ⟨j, ys, e, rfl, rfl⟩
    · cases q with
      | zero => omega
      | succ q => exact .again hh e (runsN q _ _ (by unfold atN; omega) (by omega))
    · cases q with
      | zero => omega
      | succ q => exact .again hh e (runsN q _ _ (by unfold atN; omega) (by omega))
    · exact .exit hh e
theorem N_ok {env : Env} (h20 : ∀ a, env.f 20 a = 0) (h21 : ∀ a, env.f 21 a = 6) (h22 : ∀ a, env.f 22 a = 1) : LoopOK env (loopN ctN) := by
  intro xs hl hh hp
  obtain ⟨w, l, rfl⟩ : ∃ w l, xs = [w, l] := by
    match xs, hl with
    | [a, b], _ => exact ⟨a, b, rfl⟩
  refine ⟨0, [6, 1], _, runsN _ w l (headN.1 hh) (Nat.le_refl _), rfl, h20 _, ?_, by simp [loopN], ?_⟩
  · intro i hi
    match i, hi with
    | 0, _ => exact h21 _
    | 1, _ => exact h22 _
    | i + 2, hi => exact absurd hi (by show ¬ (i + 2 < 2); omega)
  · intro e lo hi he
    simp only [loopN, List.mem_cons, Prod.mk.injEq, List.not_mem_nil, or_false] at he
    rcases he with ⟨rfl, rfl, rfl⟩ | ⟨rfl, rfl, rfl⟩
    · exact ⟨Int.le_of_eq (h21 (denL (env.upd (loopN ctN).base [w, l]) [E.var 0, E.var 1])).symm, Int.le_of_eq (h21 (denL (env.upd (loopN ctN).base [w, l]) [E.var 0, E.var 1]))⟩
    · exact ⟨Int.le_of_eq (h22 (denL (env.upd (loopN ctN).base [w, l]) [E.var 0, E.var 1])).symm, Int.le_of_eq (h22 (denL (env.upd (loopN ctN).base [w, l]) [E.var 0, E.var 1]))⟩
theorem XN_ok {fn : Nat → List Int → Int} (hr : RowFn fn) (h20 : ∀ a, fn 20 a = 0) (h21 : ∀ a, fn 21 a = 6) (h22 : ∀ a, fn 22 a = 1) : ParOK Try.prog fn (XN ctN) :=
  ⟨fun env _ => noBook_ok _ _, (by
    intro env he f i q hq tm s L hL
    simp only [XN] at hq
    split at hq
    · cases hq
      cases hL
      subst he
      exact N_ok h20 h21 h22
    · cases hq), hr, fun env _ => noGen_ok _ _⟩
end Go.Proofs.Ytfkkimpcemlmcaa.packs
