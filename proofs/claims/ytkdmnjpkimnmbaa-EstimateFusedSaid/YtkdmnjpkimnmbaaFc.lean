/- The loops of the fused span; contracts. -/
import Derived.Test.YtkdmnjpkimnmbaaFb
namespace Go.Proofs.Ytkdmnjpkimnmbaa
open Go Go.SX Go.RowKit
set_option linter.unusedVariables false
set_option linter.unusedSimpArgs false
set_option maxRecDepth 100000
set_option maxHeartbeats 4000000
/-! ### the program's -/
theorem facFP {env : Env} (h : Good env.f) : factsP env facF ↔ (1 ≤ env.v 0 ∧ env.v 0 ≤ 16) ∧ (0 ≤ env.v 1 ∧ env.v 1 < env.v 0) ∧ allV env.f (env.v 0) := by
  unfold facF fB
  rw [facts_app, facts_app, nBP]
  have e : factsP env [okA] ↔ allV env.f (env.v 0) := by
    simp only [factsP, and_true]; exact okAP h
  rw [e]
  simp only [factsP, den_lit, den_var, den_ite, den_cmp, den_cmpB, den_tst, den_tstF, den_negT, den_negF, den_andT, den_andF, lssT, leqT, gtrT, geqT, eqlT, neqT, lssF, leqF, gtrF, geqF, eqlF, neqF, den_app, den_nilL, den_consL, den_add, den_sub, den_mul, den_tdiv, den_tmod, den_mx, den_mn, den_blit, den_bin, binI, and_true, and_assoc]
theorem P_ev {env : Env} (h : Good env.f) : ∀ (i : Nat) (a b c : Int), c = 0 ∨ c = 1 → cP.ev (env.upd 3 [(i : Int), a, b, c]) = if (i : Int) < env.v 0 then some (0, [((i + 1 : Nat) : Int), (if gd env.f (env.v 0).toNat (env.v 1) (env.f 5000 [(i : Int)]) then min a (env.f 5000 [(i : Int)]) else a),
      (if gd env.f (env.v 0).toNat (env.v 1) (env.f 5001 [(i : Int)]) then max b (env.f 5001 [(i : Int)]) else b), (if gd env.f (env.v 0).toNat (env.v 1) (env.f 5000 [(i : Int)]) ∨ gd env.f (env.v 0).toNat (env.v 1) (env.f 5001 [(i : Int)]) then 1 else c)]) else some (1, [a, b, c]) := fun i a b c hc => by
  have v3 : (env.upd 3 [(i : Int), a, b, c]).v 3 = (i : Int) := rfl
  have v4 : (env.upd 3 [(i : Int), a, b, c]).v 4 = a := rfl
  have v5 : (env.upd 3 [(i : Int), a, b, c]).v 5 = b := rfl
  have v6 : (env.upd 3 [(i : Int), a, b, c]).v 6 = c := rfl
  have ec : (if c = 0 then (0 : Int) else 1) = c := by rcases hc with rfl | rfl <;> rfl
  simp only [cP, ct_ite, ct_again, ct_exit, den_lit, den_var, den_ite, den_cmp, den_cmpB, den_tst, den_tstF, den_negT, den_negF, den_andT, den_andF, lssT, leqT, gtrT, geqT, eqlT, neqT, lssF, leqF, gtrF, geqF, eqlF, neqF, den_app, den_nilL, den_consL, den_add, den_sub, den_mul, den_tdiv, den_tmod, den_mx, den_mn, den_blit, den_bin, binI, upd_f, ups _ (show 0 < 3 by decide), ups _ (show 1 < 3 by decide), v3, v4, v5, v6, h.h61, ec]
  by_cases c1 : (i : Int) < env.v 0
  · rw [if_pos c1, if_pos c1]
    by_cases g1 : gd env.f (env.v 0).toNat (env.v 1) (env.f 5000 [(i : Int)])
    · rw [if_pos g1, if_pos g1, if_pos (Or.inl g1)]
      by_cases g2 : gd env.f (env.v 0).toNat (env.v 1) (env.f 5001 [(i : Int)])
      · rw [if_pos g2, if_pos g2]; rfl
      · rw [if_neg g2, if_neg g2]; rfl
    · rw [if_neg g1, if_neg g1]
      by_cases g2 : gd env.f (env.v 0).toNat (env.v 1) (env.f 5001 [(i : Int)])
      · rw [if_pos g2, if_pos g2, if_pos (Or.inr g2)]; rfl
      · rw [if_neg g2, if_neg g2, if_neg (fun z => z.elim g1 g2)]; rfl
  · rw [if_neg c1, if_neg c1]
theorem P_runs {env : Env} (h : Good env.f) (b : Nat) (h1 : 1 ≤ env.v 0 ∧ env.v 0 ≤ 16) (h2 : 0 ≤ env.v 1 ∧ env.v 1 < env.v 0) (hV : allV env.f (env.v 0)) : ∀ (q i : Nat), (env.v 0).toNat - i ≤ q → (i : Int) ≤ env.v 0 →
    Runs env (loopP b cP) [(i : Int), pLo env.f (env.v 0).toNat (env.v 1) i, pHi env.f (env.v 0).toNat (env.v 1) i, pF env.f (env.v 0).toNat (env.v 1) i] 0
      [pLo env.f (env.v 0).toNat (env.v 1) (env.v 0).toNat, pHi env.f (env.v 0).toNat (env.v 1) (env.v 0).toNat, pF env.f (env.v 0).toNat (env.v 1) (env.v 0).toNat]
  | q, i, hq, hi => by
      have b1 := pLo_bd (m := env.v 1) (allV_nat hV) (i := i) (by omega)
      have b2 := pHi_bd (m := env.v 1) (allV_nat hV) (i := i) (by omega)
      have b3 := pF_is env.f (env.v 0).toNat (env.v 1) i
      have hh : HeadOK env (loopP b cP) [(i : Int), pLo env.f (env.v 0).toNat (env.v 1) i, pHi env.f (env.v 0).toNat (env.v 1) i, pF env.f (env.v 0).toNat (env.v 1) i] := by
        rw [headOK_iff]
        refine ⟨⟨(by show 0 ≤ (i : Int) ∧ (i : Int) ≤ 16; omega), b1, b2, (by show 0 ≤ pF env.f (env.v 0).toNat (env.v 1) i ∧ pF env.f (env.v 0).toNat (env.v 1) i ≤ 1; omega), trivial⟩, ?_⟩
        exact (facFP (env := env.upd 3 _) h).2 ⟨h1, h2, hV⟩
      have ev : (loopP b cP).ct.ev (env.upd (loopP b cP).base [(i : Int), pLo env.f (env.v 0).toNat (env.v 1) i, pHi env.f (env.v 0).toNat (env.v 1) i, pF env.f (env.v 0).toNat (env.v 1) i]) = _ := P_ev h i _ _ _ b3
      by_cases hlt : (i : Int) < env.v 0
      · rw [if_pos hlt] at ev
        cases q with
        | zero => omega
        | succ q => exact .again hh ev (P_runs h b h1 h2 hV q (i + 1) (by omega) (by omega))
      · rw [if_neg hlt] at ev
        have hn : (env.v 0).toNat = i := by omega
        rw [hn] at ev hh ⊢
        exact .exit hh ev
theorem P_ok {env : Env} (h : Good env.f) (b : Nat) : LoopOK env (loopP b cP) := by
  intro l hl hh hp
  obtain ⟨i, x, y, z, rfl⟩ := len4 hl
  rw [headOK_iff] at hh
  have hf : factsP (env.upd 3 [i, x, y, z]) facF := hh.2
  rw [facFP (env := env.upd 3 [i, x, y, z]) h] at hf
  obtain ⟨h1, h2, hV⟩ := hf
  have p1 := hp (z0 3) (by simp [loopP])
  have p2 := hp (.cmp .eql (.var 4) (.lit 1099511627776)) (by simp [loopP])
  have p3 := hp (.cmp .eql (.var 5) (.lit (-1099511627776))) (by simp [loopP])
  have p4 := hp (z0 6) (by simp [loopP])
  rw [show (loopP b cP).base = 3 from rfl] at p1 p2 p3 p4
  simp only [z0, den_cmpB, eqlT, den_var, den_lit] at p1 p2 p3 p4
  have p1' : i = 0 := p1
  have p2' : x = 1099511627776 := p2
  have p3' : y = -1099511627776 := p3
  have p4' : z = 0 := p4
  subst p1' p2' p3' p4'
  have rr := P_runs h b h1 h2 hV _ 0 (Nat.le_refl _) (by have : 1 ≤ env.v 0 := h1.1; omega)
  refine ⟨0, _, _, rr, rfl, h.h70 .., fun j hj => ?_, by simp [loopP], by simp [loopP]⟩
  have hj3 : j < 3 := hj
  rcases (by omega : j = 0 ∨ j = 1 ∨ j = 2) with rfl | rfl | rfl
  · exact h.h71 ..
  · exact h.h72 ..
  · exact h.h73 ..
theorem R1_ev {env : Env} (h : Good env.f) : ∀ (i : Nat) (a c : Int), c = 0 ∨ c = 1 → 0 ≤ env.v 0 → cR1.ev (env.upd 3 [(i : Int), a, c]) = if (i : Int) < env.v 0 then (if gd env.f (env.v 0).toNat (env.v 1) (env.f 5000 [(i : Int)]) ∧ (c = 0 ∨ env.f 5000 [(i : Int)] < a) then some (0, [((i + 1 : Nat) : Int), env.f 5000 [(i : Int)], 1]) else some (0, [((i + 1 : Nat) : Int), a, c])) else some (1, [a, c]) := fun i a c hc hn => by
  have v3 : (env.upd 3 [(i : Int), a, c]).v 3 = (i : Int) := rfl
  have v4 : (env.upd 3 [(i : Int), a, c]).v 4 = a := rfl
  have v5 : (env.upd 3 [(i : Int), a, c]).v 5 = c := rfl
  have ec : (if c = 0 then (0 : Int) else 1) = c := by rcases hc with rfl | rfl <;> rfl
  have ls := lst_sup env.f (env.f 5000 [(i : Int)]) (env.v 0).toNat
  have eg : (sup env.f (env.f 5000 [(i : Int)]) (env.v 0).toNat : Int) ≥ env.v 0 - env.v 1 ↔ gd env.f (env.v 0).toNat (env.v 1) (env.f 5000 [(i : Int)]) := by unfold gd; omega
  simp only [cR1, ct_ite, ct_again, ct_exit, den_lit, den_var, den_ite, den_cmp, den_cmpB, den_tst, den_tstF, den_negT, den_negF, den_andT, den_andF, lssT, leqT, gtrT, geqT, eqlT, neqT, lssF, leqF, gtrF, geqF, eqlF, neqF, den_app, den_nilL, den_consL, den_add, den_sub, den_mul, den_tdiv, den_tmod, den_mx, den_mn, den_blit, den_bin, binI, upd_f, ups _ (show 0 < 3 by decide), ups _ (show 1 < 3 by decide), v3, v4, v5, h.h65, ec]
  by_cases c1 : (i : Int) < env.v 0
  · rw [if_pos c1, if_pos c1]
    by_cases g1 : gd env.f (env.v 0).toNat (env.v 1) (env.f 5000 [(i : Int)])
    · rw [if_pos (eg.2 g1)]
      by_cases g2 : c = 0
      · rw [if_pos g2, if_pos (And.intro g1 (Or.inl g2))]; rfl
      · rw [if_neg g2]
        by_cases g3 : env.f 5000 [(i : Int)] < a
        · rw [if_pos g3, if_pos (And.intro g1 (Or.inr g3))]; rfl
        · rw [if_neg g3, if_neg (fun z => z.2.elim g2 g3)]; rfl
    · rw [if_neg (fun z => g1 (eg.1 z)), if_neg (fun z => g1 z.1)]; rfl
  · rw [if_neg c1, if_neg c1]
theorem R1_runs {env : Env} (h : Good env.f) (b : Nat) (h1 : 1 ≤ env.v 0 ∧ env.v 0 ≤ 16) (h2 : 0 ≤ env.v 1 ∧ env.v 1 < env.v 0) (hV : allV env.f (env.v 0)) : ∀ (q i : Nat), (env.v 0).toNat - i ≤ q → (i : Int) ≤ env.v 0 →
    Runs env (loopR1 b cR1) [(i : Int), (rLo env.f (env.v 0).toNat (env.v 1) i).1, (rLo env.f (env.v 0).toNat (env.v 1) i).2] 0 [(rLo env.f (env.v 0).toNat (env.v 1) (env.v 0).toNat).1, (rLo env.f (env.v 0).toNat (env.v 1) (env.v 0).toNat).2]
  | q, i, hq, hi => by
      have b3 := rLo_is env.f (env.v 0).toNat (env.v 1) i
      have hh : HeadOK env (loopR1 b cR1) [(i : Int), (rLo env.f (env.v 0).toNat (env.v 1) i).1, (rLo env.f (env.v 0).toNat (env.v 1) i).2] := by
        rw [headOK_iff]
        exact ⟨⟨(by show 0 ≤ (i : Int) ∧ (i : Int) ≤ 16; omega), trivial⟩, (facFP (env := env.upd 3 _) h).2 ⟨h1, h2, hV⟩⟩
      have ev : (loopR1 b cR1).ct.ev (env.upd (loopR1 b cR1).base [(i : Int), (rLo env.f (env.v 0).toNat (env.v 1) i).1, (rLo env.f (env.v 0).toNat (env.v 1) i).2]) = _ := R1_ev h i _ _ b3 (by omega)
      by_cases hlt : (i : Int) < env.v 0
      · rw [if_pos hlt] at ev
        cases q with
        | zero => omega
        | succ q =>
          have rr := R1_runs h b h1 h2 hV q (i + 1) (by omega) (by omega)
          by_cases g : gd env.f (env.v 0).toNat (env.v 1) (env.f 5000 [(i : Int)]) ∧ ((rLo env.f (env.v 0).toNat (env.v 1) i).2 = 0 ∨ env.f 5000 [(i : Int)] < (rLo env.f (env.v 0).toNat (env.v 1) i).1)
          · rw [if_pos g] at ev
            rw [show rLo env.f (env.v 0).toNat (env.v 1) (i + 1) = (env.f 5000 [(i : Int)], 1) from if_pos g] at rr
            exact .again hh ev rr
          · rw [if_neg g] at ev
            rw [show rLo env.f (env.v 0).toNat (env.v 1) (i + 1) = rLo env.f (env.v 0).toNat (env.v 1) i from if_neg g] at rr
            exact .again hh ev rr
      · rw [if_neg hlt] at ev
        have hn : (env.v 0).toNat = i := by omega
        rw [hn] at ev hh ⊢
        exact .exit hh ev
theorem R1_ok {env : Env} (h : Good env.f) (b : Nat) : LoopOK env (loopR1 b cR1) := by
  intro l hl hh hp
  obtain ⟨i, x, y, rfl⟩ := len3 hl
  rw [headOK_iff] at hh
  have hf : factsP (env.upd 3 [i, x, y]) facF := hh.2
  rw [facFP (env := env.upd 3 [i, x, y]) h] at hf
  obtain ⟨h1, h2, hV⟩ := hf
  have p1 := hp (z0 3) (by simp [loopR1])
  have p2 := hp (z0 4) (by simp [loopR1])
  have p3 := hp (z0 5) (by simp [loopR1])
  rw [show (loopR1 b cR1).base = 3 from rfl] at p1 p2 p3
  simp only [z0, den_cmpB, eqlT, den_var, den_lit] at p1 p2 p3
  have p1' : i = 0 := p1
  have p2' : x = 0 := p2
  have p3' : y = 0 := p3
  subst p1' p2' p3'
  have rr := R1_runs h b h1 h2 hV _ 0 (Nat.le_refl _) (by have : 1 ≤ env.v 0 := h1.1; omega)
  refine ⟨0, _, _, rr, rfl, h.h80 .., fun j hj => ?_, by simp [loopR1], by simp [loopR1]⟩
  have hj2 : j < 2 := hj
  rcases (by omega : j = 0 ∨ j = 1) with rfl | rfl
  · exact h.h81 ..
  · exact h.h82 ..
theorem R2_ev {env : Env} (h : Good env.f) : ∀ (i : Nat) (a c : Int), c = 0 ∨ c = 1 → 0 ≤ env.v 0 → cR2.ev (env.upd 3 [(i : Int), a, c]) = if (i : Int) < env.v 0 then (if gd env.f (env.v 0).toNat (env.v 1) (env.f 5001 [(i : Int)]) ∧ (c = 0 ∨ a < env.f 5001 [(i : Int)]) then some (0, [((i + 1 : Nat) : Int), env.f 5001 [(i : Int)], 1]) else some (0, [((i + 1 : Nat) : Int), a, c])) else some (1, [a, c]) := fun i a c hc hn => by
  have v3 : (env.upd 3 [(i : Int), a, c]).v 3 = (i : Int) := rfl
  have v4 : (env.upd 3 [(i : Int), a, c]).v 4 = a := rfl
  have v5 : (env.upd 3 [(i : Int), a, c]).v 5 = c := rfl
  have ec : (if c = 0 then (0 : Int) else 1) = c := by rcases hc with rfl | rfl <;> rfl
  have ls := lst_sup env.f (env.f 5001 [(i : Int)]) (env.v 0).toNat
  have eg : (sup env.f (env.f 5001 [(i : Int)]) (env.v 0).toNat : Int) ≥ env.v 0 - env.v 1 ↔ gd env.f (env.v 0).toNat (env.v 1) (env.f 5001 [(i : Int)]) := by unfold gd; omega
  simp only [cR2, ct_ite, ct_again, ct_exit, den_lit, den_var, den_ite, den_cmp, den_cmpB, den_tst, den_tstF, den_negT, den_negF, den_andT, den_andF, lssT, leqT, gtrT, geqT, eqlT, neqT, lssF, leqF, gtrF, geqF, eqlF, neqF, den_app, den_nilL, den_consL, den_add, den_sub, den_mul, den_tdiv, den_tmod, den_mx, den_mn, den_blit, den_bin, binI, upd_f, ups _ (show 0 < 3 by decide), ups _ (show 1 < 3 by decide), v3, v4, v5, h.h65, ec]
  by_cases c1 : (i : Int) < env.v 0
  · rw [if_pos c1, if_pos c1]
    by_cases g1 : gd env.f (env.v 0).toNat (env.v 1) (env.f 5001 [(i : Int)])
    · rw [if_pos (eg.2 g1)]
      by_cases g2 : c = 0
      · rw [if_pos g2, if_pos (And.intro g1 (Or.inl g2))]; rfl
      · rw [if_neg g2]
        by_cases g3 : a < env.f 5001 [(i : Int)]
        · rw [if_pos g3, if_pos (And.intro g1 (Or.inr g3))]; rfl
        · rw [if_neg g3, if_neg (fun z => z.2.elim g2 g3)]; rfl
    · rw [if_neg (fun z => g1 (eg.1 z)), if_neg (fun z => g1 z.1)]; rfl
  · rw [if_neg c1, if_neg c1]
theorem R2_runs {env : Env} (h : Good env.f) (b : Nat) (h1 : 1 ≤ env.v 0 ∧ env.v 0 ≤ 16) (h2 : 0 ≤ env.v 1 ∧ env.v 1 < env.v 0) (hV : allV env.f (env.v 0)) : ∀ (q i : Nat), (env.v 0).toNat - i ≤ q → (i : Int) ≤ env.v 0 →
    Runs env (loopR2 b cR2) [(i : Int), (rHi env.f (env.v 0).toNat (env.v 1) i).1, (rHi env.f (env.v 0).toNat (env.v 1) i).2] 0 [(rHi env.f (env.v 0).toNat (env.v 1) (env.v 0).toNat).1, (rHi env.f (env.v 0).toNat (env.v 1) (env.v 0).toNat).2]
  | q, i, hq, hi => by
      have b3 := rHi_is env.f (env.v 0).toNat (env.v 1) i
      have hh : HeadOK env (loopR2 b cR2) [(i : Int), (rHi env.f (env.v 0).toNat (env.v 1) i).1, (rHi env.f (env.v 0).toNat (env.v 1) i).2] := by
        rw [headOK_iff]
        exact ⟨⟨(by show 0 ≤ (i : Int) ∧ (i : Int) ≤ 16; omega), trivial⟩, (facFP (env := env.upd 3 _) h).2 ⟨h1, h2, hV⟩⟩
      have ev : (loopR2 b cR2).ct.ev (env.upd (loopR2 b cR2).base [(i : Int), (rHi env.f (env.v 0).toNat (env.v 1) i).1, (rHi env.f (env.v 0).toNat (env.v 1) i).2]) = _ := R2_ev h i _ _ b3 (by omega)
      by_cases hlt : (i : Int) < env.v 0
      · rw [if_pos hlt] at ev
        cases q with
        | zero => omega
        | succ q =>
          have rr := R2_runs h b h1 h2 hV q (i + 1) (by omega) (by omega)
          by_cases g : gd env.f (env.v 0).toNat (env.v 1) (env.f 5001 [(i : Int)]) ∧ ((rHi env.f (env.v 0).toNat (env.v 1) i).2 = 0 ∨ (rHi env.f (env.v 0).toNat (env.v 1) i).1 < env.f 5001 [(i : Int)])
          · rw [if_pos g] at ev
            rw [show rHi env.f (env.v 0).toNat (env.v 1) (i + 1) = (env.f 5001 [(i : Int)], 1) from if_pos g] at rr
            exact .again hh ev rr
          · rw [if_neg g] at ev
            rw [show rHi env.f (env.v 0).toNat (env.v 1) (i + 1) = rHi env.f (env.v 0).toNat (env.v 1) i from if_neg g] at rr
            exact .again hh ev rr
      · rw [if_neg hlt] at ev
        have hn : (env.v 0).toNat = i := by omega
        rw [hn] at ev hh ⊢
        exact .exit hh ev
theorem R2_ok {env : Env} (h : Good env.f) (b : Nat) : LoopOK env (loopR2 b cR2) := by
  intro l hl hh hp
  obtain ⟨i, x, y, rfl⟩ := len3 hl
  rw [headOK_iff] at hh
  have hf : factsP (env.upd 3 [i, x, y]) facF := hh.2
  rw [facFP (env := env.upd 3 [i, x, y]) h] at hf
  obtain ⟨h1, h2, hV⟩ := hf
  have p1 := hp (z0 3) (by simp [loopR2])
  have p2 := hp (z0 4) (by simp [loopR2])
  have p3 := hp (z0 5) (by simp [loopR2])
  rw [show (loopR2 b cR2).base = 3 from rfl] at p1 p2 p3
  simp only [z0, den_cmpB, eqlT, den_var, den_lit] at p1 p2 p3
  have p1' : i = 0 := p1
  have p2' : x = 0 := p2
  have p3' : y = 0 := p3
  subst p1' p2' p3'
  have rr := R2_runs h b h1 h2 hV _ 0 (Nat.le_refl _) (by have : 1 ≤ env.v 0 := h1.1; omega)
  refine ⟨0, _, _, rr, rfl, h.h90 .., fun j hj => ?_, by simp [loopR2], by simp [loopR2]⟩
  have hj2 : j < 2 := hj
  rcases (by omega : j = 0 ∨ j = 1) with rfl | rfl
  · exact h.h91 ..
  · exact h.h92 ..
def XBc : Par := XB cA cA2 cL cL2 cS cP cR1 cR2 cI
def XEc : Par := XE cA cA2 cL cL2 cS cP cR1 cR2 cI
theorem XB_ok {fn : Fn} (h : Good fn) : ParOK Try.prog fn XBc :=
  ⟨fun env _ => noBook_ok _ _, (by
    intro env he f i g hg tm s L hL
    have hf : Good env.f := by rw [he]; exact h
    simp only [XBc, XB, loopsE] at hg
    split at hg
    · cases hg; cases hL; exact A_ok hf A_ev1
    split at hg
    · cases hg; cases hL; exact A_ok hf A_ev2
    split at hg
    · cases hg; cases hL; exact L_ok hf L_ev1
    split at hg
    · cases hg; cases hL; exact L_ok hf L_ev2
    split at hg
    · cases hg; cases hL; exact S_ok hf
    split at hg
    · cases hg
      simp only [Option.map_eq_some_iff] at hL
      obtain ⟨b, _, rfl⟩ := hL
      exact P_ok hf b
    split at hg
    · cases hg
      simp only [Option.map_eq_some_iff] at hL
      obtain ⟨b, _, rfl⟩ := hL
      exact R1_ok hf b
    split at hg
    · cases hg
      simp only [Option.map_eq_some_iff] at hL
      obtain ⟨b, _, rfl⟩ := hL
      exact R2_ok hf b
    split at hg
    · cases hg
      simp only [Option.bind_eq_some_iff] at hL
      obtain ⟨p, _, q, _, hL⟩ := hL
      cases hpq : (isL p && isL q) with
      | false => rw [hpq] at hL; cases hL
      | true => rw [hpq] at hL; cases hL; exact I_ok hf
    · cases hg), h.rows, fun env _ => noGen_ok _ _⟩
theorem pre_of {env : Env} (h : Good env.f) (hp : ∀ b, b ∈ nB ++ [okA] → b.den env = true) : (1 ≤ env.v 0 ∧ env.v 0 ≤ 16) ∧ allV env.f (env.v 0) :=
  ⟨nBP.1 ⟨hp _ (by simp [nB, bet]), hp _ (by simp [nB, bet]), trivial⟩, (okAP h).1 (hp okA (by simp))⟩
def vtL : VT := (.leaf (.agg [(.int .i64 (.app 32 [(.lit 0), (.lit 0), (.app 1000 []), (.var 0), (.var 2)])), (.int .i64 (.app 31 [(.lit 0), (.lit 0), (.app 1000 []), (.var 0), (.var 2)]))]))
def vtS : VT := (.leaf (.agg [(.int .i64 (.app 41 [(.lit 0), (.lit 0), (.var 0), (.var 2)]))]))
theorem li_run : (run (callT Try.prog XBc 100000 liWC.f (rcArgs liWC.sh) (rcCtx liWC.sh liWC.pre 0)) (rcSt liWC.sh)).vtO liWC.outs = vtL := by kernel_rfl
theorem su_run : (run (callT Try.prog XBc 100000 suWC.f (rcArgs suWC.sh) (rcCtx suWC.sh suWC.pre 0)) (rcSt suWC.sh)).vtO suWC.outs = vtS := by kernel_rfl
theorem li_ok {fn : Fn} (h : Good fn) : liWC.OK Try.prog fn := by
  refine WC.ok_runC (X := XBc) (n := 100000) mixF (XB_ok h) (by kernel_rfl) fun pv w hpv hfn hpre => ⟨by simp [liWC], ?_, _, RC.ctx_ok (d := 0) hpv hpre, ?_⟩
  · intro p hm
    have h1 := (pre_of (env := envOf (pvNums pv) fn) h hpre).1
    simp only [liWC, List.mem_singleton] at hm
    subst hm
    have hle := lst_le fn ((envOf (pvNums pv) fn).v 2) ((envOf (pvNums pv) fn).v 0).toNat
    show 0 ≤ fn 61 [(envOf (pvNums pv) fn).v 0, (envOf (pvNums pv) fn).v 2] ∧ fn 61 [(envOf (pvNums pv) fn).v 0, (envOf (pvNums pv) fn).v 2] ≤ 16
    rw [h.h61]; omega
  · rw [li_run]
    generalize he : envOf (pvNums pv) fn = env
    have hf : Good env.f := by rw [← he]; exact h
    have hfe : fn = env.f := by rw [← he]; rfl
    subst hfe
    intro j hj
    have hj2 : j < 2 := hj
    rcases (by omega : j = 0 ∨ j = 1) with rfl | rfl
    · exact (hf.h32 ..).trans (hf.h60 ..).symm
    · exact (hf.h31 ..).trans (hf.h61 ..).symm
theorem su_ok {fn : Fn} (h : Good fn) : suWC.OK Try.prog fn := by
  refine WC.ok_runC (X := XBc) (n := 100000) mixF (XB_ok h) (by kernel_rfl) fun pv w hpv hfn hpre => ⟨by simp [suWC], ?_, _, RC.ctx_ok (d := 0) hpv hpre, ?_⟩
  · intro p hm
    have h1 := (pre_of (env := envOf (pvNums pv) fn) h hpre).1
    simp only [suWC, List.mem_singleton] at hm
    subst hm
    have hle := sup_le fn ((envOf (pvNums pv) fn).v 2) ((envOf (pvNums pv) fn).v 0).toNat
    show 0 ≤ fn 65 [(envOf (pvNums pv) fn).v 0, (envOf (pvNums pv) fn).v 2] ∧ fn 65 [(envOf (pvNums pv) fn).v 0, (envOf (pvNums pv) fn).v 2] ≤ 16
    rw [h.h65]; omega
  · rw [su_run]
    generalize he : envOf (pvNums pv) fn = env
    have hf : Good env.f := by rw [← he]; exact h
    have hfe : fn = env.f := by rw [← he]; rfl
    subst hfe
    intro j hj
    have hj1 : j < 1 := hj
    obtain rfl : j = 0 := by omega
    exact (hf.h41 ..).trans (hf.h65 ..).symm
theorem wk_ok {fn : Fn} (h : Good fn) : wkFC.OK Try.prog fn := by
  refine FC.ok_eqv (X := noPar) (d := 1) (n := 100000) (t := .leaf (.bool (.lit true))) mixF (noPar_ok fn h.rows) rfl (by kernel_rfl) (by kernel_rfl) fun r hw _ => ⟨by simp [wkFC], by simp [wkFC], ?_⟩
  exact rfl
theorem XE_ok {fn : Fn} (h : Good fn) : ParOK Try.prog fn XEc :=
  FC.parOK (wk_ok h) rfl (ParOK.onlyIf (WC.parOK (li_ok h) rfl (WC.parOK (su_ok h) rfl (noPar_ok fn h.rows))) (XB_ok h))
def vtE : VT := (.ite (.cmp .gtr (.var 0) (.lit 100)) (.leaf (.bool (.lit true))) (.ite (.cmp .gtr (.var 0) (.lit 16)) (.leaf (.bool (.lit true))) (.ite (.cmp .eql (.var 0) (.lit 0)) (.leaf (.bool (.lit true))) (.ite (.cmp .eql (.app 20 [(.lit 0), (.var 0)]) (.lit 0)) (.ite (.cmp .lss (.var 1) (.lit 0)) (.ite (.cmp .leq (.lit (-1099511627776)) (.var 2)) (.ite (.neg (.cmp .leq (.var 2) (.lit 1099511627776))) (.leaf (.bool (.lit true))) (.ite (.cmp .eql (.app 50 [(.lit 0), (.app 31 [(.lit 0), (.lit 0), (.app 1000 []), (.var 0), (.var 2)])]) (.lit 0)) (.leaf (.bool (.lit true))) (.leaf (.bool (.lit false))))) (.leaf (.bool (.lit true)))) (.ite (.cmp .geq (.var 1) (.var 0)) (.ite (.cmp .leq (.lit (-1099511627776)) (.var 2)) (.ite (.neg (.cmp .leq (.var 2) (.lit 1099511627776))) (.leaf (.bool (.lit true))) (.ite (.cmp .eql (.app 50 [(.lit 0), (.app 31 [(.lit 0), (.lit 0), (.app 1000 []), (.var 0), (.var 2)])]) (.lit 0)) (.leaf (.bool (.lit true))) (.leaf (.bool (.lit false))))) (.leaf (.bool (.lit true)))) (.ite (.neg (.tst (.app 73 [(.lit 0), (.lit 1099511627776), (.lit (-1099511627776)), (.lit 0), (.var 0), (.var 1)]))) (.ite (.neg (.tst (.app 82 [(.lit 0), (.lit 0), (.lit 0), (.var 0), (.var 1)]))) (.ite (.cmp .leq (.lit (-1099511627776)) (.var 2)) (.ite (.neg (.cmp .leq (.var 2) (.lit 1099511627776))) (.leaf (.bool (.lit true))) (.ite (.cmp .eql (.app 50 [(.lit 0), (.app 31 [(.lit 0), (.lit 0), (.app 1000 []), (.var 0), (.var 2)])]) (.lit 0)) (.leaf (.bool (.lit true))) (.leaf (.bool (.lit false))))) (.leaf (.bool (.lit true)))) (.ite (.neg (.tst (.app 92 [(.lit 0), (.lit 0), (.lit 0), (.var 0), (.var 1)]))) (.ite (.cmp .leq (.lit (-1099511627776)) (.var 2)) (.ite (.neg (.cmp .leq (.var 2) (.lit 1099511627776))) (.leaf (.bool (.lit true))) (.ite (.cmp .eql (.app 50 [(.lit 0), (.app 31 [(.lit 0), (.lit 0), (.app 1000 []), (.var 0), (.var 2)])]) (.lit 0)) (.leaf (.bool (.lit true))) (.leaf (.bool (.lit false))))) (.leaf (.bool (.lit true)))) (.ite (.cmp .leq (.lit (-1099511627776)) (.var 2)) (.ite (.neg (.cmp .leq (.var 2) (.lit 1099511627776))) (.ite (.and (.cmp .eql (.lit 0) (.app 81 [(.lit 0), (.lit 0), (.lit 0), (.var 0), (.var 1)])) (.cmp .eql (.lit 0) (.app 91 [(.lit 0), (.lit 0), (.lit 0), (.var 0), (.var 1)]))) (.leaf (.bool (.lit false))) (.leaf (.bool (.lit false)))) (.ite (.and (.cmp .eql (.lit 0) (.app 81 [(.lit 0), (.lit 0), (.lit 0), (.var 0), (.var 1)])) (.cmp .eql (.lit 0) (.app 91 [(.lit 0), (.lit 0), (.lit 0), (.var 0), (.var 1)]))) (.leaf (.bool (.lit false))) (.leaf (.bool (.lit false))))) (.ite (.and (.cmp .eql (.lit 0) (.app 81 [(.lit 0), (.lit 0), (.lit 0), (.var 0), (.var 1)])) (.cmp .eql (.lit 0) (.app 91 [(.lit 0), (.lit 0), (.lit 0), (.var 0), (.var 1)]))) (.leaf (.bool (.lit false))) (.leaf (.bool (.lit false))))))) (.ite (.neg (.tst (.app 82 [(.lit 0), (.lit 0), (.lit 0), (.var 0), (.var 1)]))) (.ite (.cmp .leq (.lit (-1099511627776)) (.var 2)) (.ite (.neg (.cmp .leq (.var 2) (.lit 1099511627776))) (.ite (.and (.cmp .eql (.app 71 [(.lit 0), (.lit 1099511627776), (.lit (-1099511627776)), (.lit 0), (.var 0), (.var 1)]) (.lit 0)) (.cmp .eql (.app 72 [(.lit 0), (.lit 1099511627776), (.lit (-1099511627776)), (.lit 0), (.var 0), (.var 1)]) (.lit 0))) (.leaf (.bool (.lit false))) (.leaf (.bool (.lit false)))) (.ite (.and (.cmp .eql (.app 71 [(.lit 0), (.lit 1099511627776), (.lit (-1099511627776)), (.lit 0), (.var 0), (.var 1)]) (.lit 0)) (.cmp .eql (.app 72 [(.lit 0), (.lit 1099511627776), (.lit (-1099511627776)), (.lit 0), (.var 0), (.var 1)]) (.lit 0))) (.leaf (.bool (.lit false))) (.leaf (.bool (.lit false))))) (.ite (.and (.cmp .eql (.app 71 [(.lit 0), (.lit 1099511627776), (.lit (-1099511627776)), (.lit 0), (.var 0), (.var 1)]) (.lit 0)) (.cmp .eql (.app 72 [(.lit 0), (.lit 1099511627776), (.lit (-1099511627776)), (.lit 0), (.var 0), (.var 1)]) (.lit 0))) (.leaf (.bool (.lit false))) (.leaf (.bool (.lit false))))) (.ite (.neg (.tst (.app 92 [(.lit 0), (.lit 0), (.lit 0), (.var 0), (.var 1)]))) (.ite (.cmp .leq (.lit (-1099511627776)) (.var 2)) (.ite (.neg (.cmp .leq (.var 2) (.lit 1099511627776))) (.ite (.and (.cmp .eql (.app 71 [(.lit 0), (.lit 1099511627776), (.lit (-1099511627776)), (.lit 0), (.var 0), (.var 1)]) (.lit 0)) (.cmp .eql (.app 72 [(.lit 0), (.lit 1099511627776), (.lit (-1099511627776)), (.lit 0), (.var 0), (.var 1)]) (.lit 0))) (.leaf (.bool (.lit false))) (.leaf (.bool (.lit false)))) (.ite (.and (.cmp .eql (.app 71 [(.lit 0), (.lit 1099511627776), (.lit (-1099511627776)), (.lit 0), (.var 0), (.var 1)]) (.lit 0)) (.cmp .eql (.app 72 [(.lit 0), (.lit 1099511627776), (.lit (-1099511627776)), (.lit 0), (.var 0), (.var 1)]) (.lit 0))) (.leaf (.bool (.lit false))) (.leaf (.bool (.lit false))))) (.ite (.and (.cmp .eql (.app 71 [(.lit 0), (.lit 1099511627776), (.lit (-1099511627776)), (.lit 0), (.var 0), (.var 1)]) (.lit 0)) (.cmp .eql (.app 72 [(.lit 0), (.lit 1099511627776), (.lit (-1099511627776)), (.lit 0), (.var 0), (.var 1)]) (.lit 0))) (.leaf (.bool (.lit false))) (.leaf (.bool (.lit false))))) (.ite (.cmp .leq (.lit (-1099511627776)) (.var 2)) (.ite (.neg (.cmp .leq (.var 2) (.lit 1099511627776))) (.ite (.and (.cmp .eql (.app 71 [(.lit 0), (.lit 1099511627776), (.lit (-1099511627776)), (.lit 0), (.var 0), (.var 1)]) (.app 81 [(.lit 0), (.lit 0), (.lit 0), (.var 0), (.var 1)])) (.cmp .eql (.app 72 [(.lit 0), (.lit 1099511627776), (.lit (-1099511627776)), (.lit 0), (.var 0), (.var 1)]) (.app 91 [(.lit 0), (.lit 0), (.lit 0), (.var 0), (.var 1)]))) (.leaf (.bool (.lit true))) (.leaf (.bool (.lit false)))) (.ite (.and (.cmp .eql (.app 71 [(.lit 0), (.lit 1099511627776), (.lit (-1099511627776)), (.lit 0), (.var 0), (.var 1)]) (.app 81 [(.lit 0), (.lit 0), (.lit 0), (.var 0), (.var 1)])) (.cmp .eql (.app 72 [(.lit 0), (.lit 1099511627776), (.lit (-1099511627776)), (.lit 0), (.var 0), (.var 1)]) (.app 91 [(.lit 0), (.lit 0), (.lit 0), (.var 0), (.var 1)]))) (.ite (.cmp .eql (.app 50 [(.lit 0), (.app 31 [(.lit 0), (.lit 0), (.app 1000 []), (.var 0), (.var 2)])]) (.lit 0)) (.leaf (.bool (.lit true))) (.leaf (.bool (.lit false)))) (.leaf (.bool (.lit false))))) (.ite (.and (.cmp .eql (.app 71 [(.lit 0), (.lit 1099511627776), (.lit (-1099511627776)), (.lit 0), (.var 0), (.var 1)]) (.app 81 [(.lit 0), (.lit 0), (.lit 0), (.var 0), (.var 1)])) (.cmp .eql (.app 72 [(.lit 0), (.lit 1099511627776), (.lit (-1099511627776)), (.lit 0), (.var 0), (.var 1)]) (.app 91 [(.lit 0), (.lit 0), (.lit 0), (.var 0), (.var 1)]))) (.leaf (.bool (.lit true))) (.leaf (.bool (.lit false)))))))))) (.leaf (.bool (.lit true)))))))
theorem e_core {env : Env} (h : Good env.f) : vtE.holds env (yes env) := by
  have yl : ∀ (x : Bool), yes env (.bool (.lit x)) = (x = true) := fun _ => rfl
  have h20 : ∀ i n, env.f 20 [i, n] = 0 ↔ allV env.f n := fun i n => by
    rw [h.h20]; split <;> simp_all
  by_cases hV : allV env.f (env.v 0)
  · have F := fun hm => found (m := env.v 1) (allV_nat hV) hm
    simp only [vtE, VT.holds, den_lit, den_var, den_ite, den_cmp, den_cmpB, den_tst, den_tstF, den_negT, den_negF, den_andT, den_andF, lssT, leqT, gtrT, geqT, eqlT, neqT, lssF, leqF, gtrF, geqF, eqlF, neqF, den_app, den_nilL, den_consL, den_add, den_sub, den_mul, den_tdiv, den_tmod, den_mx, den_mn, den_blit, den_bin, binI, yl, h20, h.h50, h.h71, h.h72, h.h73, h.h81, h.h82, h.h91, h.h92]
    generalize pF env.f (env.v 0).toNat (env.v 1) (env.v 0).toNat = a at *
    generalize rLo env.f (env.v 0).toNat (env.v 1) (env.v 0).toNat = b at *
    generalize rHi env.f (env.v 0).toNat (env.v 1) (env.v 0).toNat = c at *
    generalize pLo env.f (env.v 0).toNat (env.v 1) (env.v 0).toNat = d at *
    generalize pHi env.f (env.v 0).toNat (env.v 1) (env.v 0).toNat = e at *
    by_cases hm : 0 ≤ env.v 0 ∧ env.v 1 < env.v 0
    · have F := F (by omega)
      clear h h20 yl
      repeat' (first | apply And.intro | (intro hx; try (have hx' := hx)))
      all_goals first | trivial | exact absurd hV (by assumption) | (exfalso; omega)
    · clear h h20 yl F
      repeat' (first | apply And.intro | (intro hx; try (have hx' := hx)))
      all_goals first | trivial | exact absurd hV (by assumption) | (exfalso; omega)
  · simp only [vtE, VT.holds, den_lit, den_var, den_ite, den_cmp, den_cmpB, den_tst, den_tstF, den_negT, den_negF, den_andT, den_andF, lssT, leqT, gtrT, geqT, eqlT, neqT, lssF, leqF, gtrF, geqF, eqlF, neqF, den_app, den_nilL, den_consL, den_add, den_sub, den_mul, den_tdiv, den_tmod, den_mx, den_mn, den_blit, den_bin, binI, yl, h20]
    repeat' (first | apply And.intro | (intro hx; try (have hx' := hx)))
    all_goals first | trivial | exact absurd (by assumption) hV | (exfalso; omega)
end Go.Proofs.Ytkdmnjpkimnmbaa
