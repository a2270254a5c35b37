/- The reference's greatest current, found one by one from the greatest on. -/
import Derived.Test.YtgbfaomlmpfbfaaWd
namespace Go.Proofs.Ytgbfaomlmpfbfaa
open Go Go.SX Go.RowKit WK
set_option linter.unusedVariables false
set_option linter.unusedSimpArgs false
set_option maxRecDepth 100000
def h7 : List E := [.var 0, .var 1, .var 2, .var 3, .var 10, roomE, .var 12]
def tpE (k : Nat) : E := .app k (h7 ++ [.lit 0, .var 12])
def loopS (ct : CT) : LC :=
  ⟨13, 1, [(13, .int .i64 (.var 13))], [], [1, 2, 3, 4, 11], [(-1, 2000)], moP ++ bet (.var 10) (-16384) 16384 ++ bet roomE 0 1073741824 ++ bet (.var 12) 0 2000 ++ ([.cmp .leq (.var 13) (.var 12), .neg (.and (.tst (tpE 9)) (.cmp .lss (.var 13) (tpE 7)))] : List BE),
   [⟨.exit 0, 0, [], [], []⟩, ⟨.ret, 2, [(8, .int .i64 (.var 13)), (9, .int .i64 (.var 14)), (10, .int .i64 (.lit 0))], [], []⟩], ct, [], 30, [], [(.app 30 (.var 13 :: h7), 0, 1), (.app 31 (.var 13 :: h7), 0, 2000), (.app 32 (.var 13 :: h7), -2000, 0)], h7, []⟩
def ctS : CT := (.ite (.cmp .geq (.var 13) (.lit 0)) (.ite (.tst (.app 6 [(.var 0), (.var 1), (.var 2), (.var 3), (.var 10), (.app 1 [(.op .mul (.var 11) (.lit 26755)), (.lit 65536)]), (.var 12), (.var 13), (.var 13)])) (.ite (.cmp .leq (.op .add (.op .mul (.app 22 [(.var 0), (.var 1), (.var 2), (.var 3), (.var 10), (.app 1 [(.op .mul (.var 11) (.lit 26755)), (.lit 65536)]), (.var 12), (.var 13), (.var 13)]) (.app 22 [(.var 0), (.var 1), (.var 2), (.var 3), (.var 10), (.app 1 [(.op .mul (.var 11) (.lit 26755)), (.lit 65536)]), (.var 12), (.var 13), (.var 13)])) (.op .mul (.var 13) (.var 13))) (.op .mul (.var 12) (.var 12))) (.exit 1 [(.var 13), (.app 22 [(.var 0), (.var 1), (.var 2), (.var 3), (.var 10), (.app 1 [(.op .mul (.var 11) (.lit 26755)), (.lit 65536)]), (.var 12), (.var 13), (.var 13)])]) (.again [(.op .sub (.var 13) (.lit 1))])) (.again [(.op .sub (.var 13) (.lit 1))])) (.exit 0 []))
def LS : LC := loopS ctS
def loopsS : LBook := fun f i => if f == 9 && i == 7 then some (fun _ _ => some LS) else none
section
variable (env : Env) (a : Int)
theorem sv0 : (env.upd 13 [a]).v 0 = env.v 0 := rfl
theorem sv1 : (env.upd 13 [a]).v 1 = env.v 1 := rfl
theorem sv2 : (env.upd 13 [a]).v 2 = env.v 2 := rfl
theorem sv3 : (env.upd 13 [a]).v 3 = env.v 3 := rfl
theorem sv4 : (env.upd 13 [a]).v 4 = env.v 4 := rfl
theorem sv5 : (env.upd 13 [a]).v 5 = env.v 5 := rfl
theorem sv6 : (env.upd 13 [a]).v 6 = env.v 6 := rfl
theorem sv7 : (env.upd 13 [a]).v 7 = env.v 7 := rfl
theorem sv8 : (env.upd 13 [a]).v 8 = env.v 8 := rfl
theorem sv9 : (env.upd 13 [a]).v 9 = env.v 9 := rfl
theorem sv10 : (env.upd 13 [a]).v 10 = env.v 10 := rfl
theorem sv11 : (env.upd 13 [a]).v 11 = env.v 11 := rfl
theorem sv12 : (env.upd 13 [a]).v 12 = env.v 12 := rfl
theorem sv13 : (env.upd 13 [a]).v 13 = a := rfl
theorem svf : (env.upd 13 [a]).f = env.f := rfl
end
def HdS (env : Env) (x : Int) : Prop := (0 ≤ env.v 0 ∧ env.v 0 ≤ 1048576) ∧ (1 ≤ env.v 1 ∧ env.v 1 ≤ 4194304) ∧ (1 ≤ env.v 2 ∧ env.v 2 ≤ 4194304) ∧ (0 ≤ env.v 3 ∧ env.v 3 ≤ 4194304) ∧
  (-16384 ≤ env.v 10 ∧ env.v 10 ≤ 16384) ∧ (0 ≤ rm (env.v 11) ∧ rm (env.v 11) ≤ 1073741824) ∧ (0 ≤ env.v 12 ∧ env.v 12 ≤ 2000) ∧ (-1 ≤ x ∧ x ≤ 2000) ∧ x ≤ env.v 12 ∧
  (stH (env.v 0) (env.v 1) (env.v 2) (env.v 3) (env.v 10) (rm (env.v 11)) (env.v 12) 0 (env.v 12) = 0 ∨ stQ (env.v 0) (env.v 1) (env.v 2) (env.v 3) (env.v 10) (rm (env.v 11)) (env.v 12) 0 (env.v 12) ≤ x)
theorem rm_def (u : Int) : u * 26755 / 65536 = rm u := rfl
theorem HdS.iff {env : Env} (h : GoodF env.f) {x : Int} : HeadOK env LS [x] ↔ HdS env x := by
  rw [headOK_iff]
  simp only [LS, loopS, moP, h7, tpE, roomE, bet, rngsP, factsP, List.cons_append, List.nil_append, den_lit, den_var, den_ite, den_cmp, den_cmpB, den_tst, den_tstF, den_negT, den_negF, den_andT, den_andF, lssT, leqT, gtrT, geqT, eqlT, neqT, lssF, leqF, gtrF, geqF, eqlF, neqF, den_app, den_nilL, den_consL, den_add, den_sub, den_mul, den_tdiv, den_tmod, den_mx, den_mn, den_blit, den_bin, binI, sv0, sv1, sv2, sv3, sv4, sv5, sv6, sv7, sv8, sv9, sv10, sv11, sv12, sv13, svf, q1 h, q7 h, q9 h, rm_def, and_true]
  unfold HdS
  omega
theorem ctS_ev {env : Env} (h : GoodF env.f) {x : Int} (hd : HdS env x) :
    (0 ≤ x ∧ WK.Good (env.v 0) (env.v 1) (env.v 2) (env.v 3) (env.v 10) (rm (env.v 11)) (env.v 12) x ∧ ctS.ev (env.upd 13 [x]) = some (2, [x, waZ (env.v 0) (env.v 1) (env.v 2) (env.v 3) (env.v 10) (rm (env.v 11)) (env.v 12) x x])) ∨
    (0 ≤ x ∧ ¬ WK.Good (env.v 0) (env.v 1) (env.v 2) (env.v 3) (env.v 10) (rm (env.v 11)) (env.v 12) x ∧ ctS.ev (env.upd 13 [x]) = some (0, [x - 1])) ∨
    (¬ 0 ≤ x ∧ ctS.ev (env.upd 13 [x]) = some (1, [])) := by
  simp only [ctS, ct_ite, ct_need, ct_again, ct_exit, den_lit, den_var, den_ite, den_cmp, den_cmpB, den_tst, den_tstF, den_negT, den_negF, den_andT, den_andF, lssT, leqT, gtrT, geqT, eqlT, neqT, lssF, leqF, gtrF, geqF, eqlF, neqF, den_app, den_nilL, den_consL, den_add, den_sub, den_mul, den_tdiv, den_tmod, den_mx, den_mn, den_blit, den_bin, binI, sv0, sv1, sv2, sv3, sv4, sv5, sv6, sv7, sv8, sv9, sv10, sv11, sv12, sv13, svf, q1 h, q6 h, q22 h, rm_def]
  by_cases h0 : 0 ≤ x
  · rw [if_pos (by omega)]
    by_cases hH : Has (env.v 0) (env.v 1) (env.v 2) (env.v 3) (env.v 10) (rm (env.v 11)) (env.v 12) x x
    · rw [if_pos (waH_iff.2 hH)]
      have ez : waZ (env.v 0) (env.v 1) (env.v 2) (env.v 3) (env.v 10) (rm (env.v 11)) (env.v 12) x x = wHi (env.v 0) (env.v 1) (env.v 2) (env.v 3) (env.v 10) (rm (env.v 11)) (env.v 12) x x := if_pos hH
      by_cases h1 : WK.Good (env.v 0) (env.v 1) (env.v 2) (env.v 3) (env.v 10) (rm (env.v 11)) (env.v 12) x
      · left
        have h2 := h1.2
        rw [← ez] at h2
        rw [if_pos h2]
        exact ⟨h0, h1, rfl⟩
      · right; left
        rw [if_neg (fun h2 => h1 ⟨hH, by rw [← ez]; exact h2⟩)]
        exact ⟨h0, h1, rfl⟩
    · right; left
      rw [if_neg (fun h2 => hH (waH_iff.1 h2))]
      exact ⟨h0, fun h1 => hH h1.1, rfl⟩
  · right; right
    rw [if_neg (by omega)]
    exact ⟨h0, rfl⟩
theorem LS_runs {env : Env} (h : GoodF env.f) : ∀ (n : Nat) {x : Int}, HdS env x → (x + 1).toNat ≤ n →
    (stH (env.v 0) (env.v 1) (env.v 2) (env.v 3) (env.v 10) (rm (env.v 11)) (env.v 12) 0 (env.v 12) ≠ 0 → Runs env LS [x] 1 [stQ (env.v 0) (env.v 1) (env.v 2) (env.v 3) (env.v 10) (rm (env.v 11)) (env.v 12) 0 (env.v 12), stD (env.v 0) (env.v 1) (env.v 2) (env.v 3) (env.v 10) (rm (env.v 11)) (env.v 12) 0 (env.v 12)]) ∧ (stH (env.v 0) (env.v 1) (env.v 2) (env.v 3) (env.v 10) (rm (env.v 11)) (env.v 12) 0 (env.v 12) = 0 → Runs env LS [x] 0 [])
  | n, x, hd, hn => by
      have hh := (HdS.iff h).2 hd
      have hd0 := hd
      unfold HdS at hd0
      obtain ⟨g0, g1, g2, g3, g4, g5, g6, g7, g8, g10⟩ := hd0
      cases e : top (env.v 0) (env.v 1) (env.v 2) (env.v 3) (env.v 10) (rm (env.v 11)) (env.v 12) 0 (env.v 12) with
      | none =>
        obtain ⟨t1, t2, t3⟩ := stH_none e
        refine ⟨fun y => absurd t1 y, fun _ => ?_⟩
        rcases ctS_ev h hd with ⟨e1, e2, e3⟩ | ⟨e1, e2, e3⟩ | ⟨e1, e3⟩
        · exact absurd e2 (top_out e x e1 g8)
        · cases n with
          | zero => omega
          | succ n =>
            refine .again hh e3 ((LS_runs h n (x := x - 1) ?_ (by omega)).2 t1)
            unfold HdS
            exact ⟨g0, g1, g2, g3, g4, g5, g6, by omega, by omega, .inl t1⟩
        · exact .exit hh e3
      | some y =>
        obtain ⟨t1, t2, t3⟩ := stH_some e
        obtain ⟨i1, i2, i3, i4⟩ := top_in e
        rw [t1, t2] at g10
        have hy : y ≤ x := by omega
        refine ⟨fun _ => ?_, fun z => absurd z (by rw [t1]; decide)⟩
        rcases ctS_ev h hd with ⟨e1, e2, e3⟩ | ⟨e1, e2, e3⟩ | ⟨e1, e3⟩
        · have ey : x = y := by
            by_cases hq : y < x
            · exact absurd e2 (i4 x hq g8)
            · omega
          subst ey
          rw [t2, t3, ← (if_pos i1.1 : waZ (env.v 0) (env.v 1) (env.v 2) (env.v 3) (env.v 10) (rm (env.v 11)) (env.v 12) x x = wHi (env.v 0) (env.v 1) (env.v 2) (env.v 3) (env.v 10) (rm (env.v 11)) (env.v 12) x x)]
          exact .exit hh e3
        · have hne : x ≠ y := fun z => by subst z; exact e2 i1
          cases n with
          | zero => omega
          | succ n =>
            refine .again hh e3 ((LS_runs h n (x := x - 1) ?_ (by omega)).1 (by rw [t1]; decide))
            unfold HdS
            rw [t1, t2]
            exact ⟨g0, g1, g2, g3, g4, g5, g6, by omega, by omega, .inr (by omega)⟩
        · omega
theorem LS_ok {env : Env} (h : GoodF env.f) : LoopOK env LS := by
  intro xs hl hh _
  obtain ⟨x, rfl⟩ := len1 hl
  have hd := (HdS.iff h).1 hh
  obtain ⟨r1, r2⟩ := LS_runs h _ hd (Nat.le_refl _)
  have hb : 0 ≤ env.v 12 ∧ env.v 12 ≤ 2000 := by unfold HdS at hd; omega
  have ev : ∀ k, env.f k ([x] ++ denL env LS.ex) = env.f k [x, env.v 0, env.v 1, env.v 2, env.v 3, env.v 10, rm (env.v 11), env.v 12] := by
    intro k
    show env.f k (x :: denL env h7) = _
    simp only [h7, roomE, den_lit, den_var, den_ite, den_cmp, den_cmpB, den_tst, den_tstF, den_negT, den_negF, den_andT, den_andF, lssT, leqT, gtrT, geqT, eqlT, neqT, lssF, leqF, gtrF, geqF, eqlF, neqF, den_app, den_nilL, den_consL, den_add, den_sub, den_mul, den_tdiv, den_tmod, den_mx, den_mn, den_blit, den_bin, binI, q1 h, rm_def]
  have B := st_bd (R := env.v 0) (K := env.v 1) (L := env.v 2) (F := env.v 3) (w := env.v 10) (m := rm (env.v 11)) (b := env.v 12) (l := 0) (h := env.v 12) hb.1 (by omega) hb.1
  have pr : (∀ x_, x_ ∈ LS.post → x_.den (env.upd LS.base [x]) = true) ∧ ∀ e lo hi, (e, lo, hi) ∈ LS.prng → lo ≤ e.den (env.upd LS.base [x]) ∧ e.den (env.upd LS.base [x]) ≤ hi := by
    refine ⟨by simp [LS, loopS], fun e lo hi hm => ?_⟩
    simp only [LS, loopS, List.mem_cons, List.not_mem_nil, or_false] at hm
    rcases hm with hm | hm | hm <;> cases hm <;> simp only [LS, loopS, h7, roomE, den_lit, den_var, den_ite, den_cmp, den_cmpB, den_tst, den_tstF, den_negT, den_negF, den_andT, den_andF, lssT, leqT, gtrT, geqT, eqlT, neqT, lssF, leqF, gtrF, geqF, eqlF, neqF, den_app, den_nilL, den_consL, den_add, den_sub, den_mul, den_tdiv, den_tmod, den_mx, den_mn, den_blit, den_bin, binI, sv0, sv1, sv2, sv3, sv4, sv5, sv6, sv7, sv8, sv9, sv10, sv11, sv12, sv13, svf, q1 h, q30 h, q31 h, q32 h, rm_def] <;> omega
  have eK : env.f LS.K ([x] ++ denL env LS.ex) = stH (env.v 0) (env.v 1) (env.v 2) (env.v 3) (env.v 10) (rm (env.v 11)) (env.v 12) 0 (env.v 12) := (ev 30).trans (q30 h ..)
  by_cases hH : stH (env.v 0) (env.v 1) (env.v 2) (env.v 3) (env.v 10) (rm (env.v 11)) (env.v 12) 0 (env.v 12) = 0
  · refine ⟨0, [], _, r2 hH, rfl, by rw [eK, hH]; rfl, fun i hi => absurd hi (by decide +revert), pr.1, pr.2⟩
  · have e1 : stH (env.v 0) (env.v 1) (env.v 2) (env.v 3) (env.v 10) (rm (env.v 11)) (env.v 12) 0 (env.v 12) = 1 := by omega
    refine ⟨1, _, _, r1 hH, rfl, by rw [eK, e1]; rfl, fun i hi => ?_, pr.1, pr.2⟩
    have hi2 : i < 2 := hi
    rw [ev]
    rcases (by omega : i = 0 ∨ i = 1) with rfl | rfl
    · exact (q31 h ..).trans rfl
    · exact (q32 h ..).trans rfl
def X3 : Par := weFC.par Xf
theorem X3_ok {fn : Nat → List Int → Int} (h : GoodF fn) : ParOK Try.prog fn X3 := FC.parOK (we_ok h) rfl (Xf_ok h)
def X5 : Par := { X3 with loops := loopsS }
theorem X5_ok {fn : Nat → List Int → Int} (h : GoodF fn) : ParOK Try.prog fn X5 :=
  ⟨(X3_ok h).book, (by
    intro env he f i g hg tm s L hL
    have hf : GoodF env.f := by rw [he]; exact h
    simp only [X5, loopsS] at hg
    split at hg
    · cases hg; cases hL; exact LS_ok hf
    · cases hg), (X3_ok h).rows, (X3_ok h).gen⟩
end Go.Proofs.Ytgbfaomlmpfbfaa
