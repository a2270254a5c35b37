/- The loops over spans. -/
import Derived.Test.YtkdmnjpkimnmbaaFa
namespace Go.Proofs.Ytkdmnjpkimnmbaa
open Go Go.SX Go.RowKit
set_option linter.unusedVariables false
set_option linter.unusedSimpArgs false
set_option maxRecDepth 100000
set_option maxHeartbeats 4000000
theorem betP {env : Env} {e : E} {lo hi : Int} : factsP env (bet e lo hi) ↔ lo ≤ e.den env ∧ e.den env ≤ hi := by
  simp only [bet, factsP, den_lit, den_var, den_ite, den_cmp, den_cmpB, den_tst, den_tstF, den_negT, den_negF, den_andT, den_andF, lssT, leqT, gtrT, geqT, eqlT, neqT, lssF, leqF, gtrF, geqF, eqlF, neqF, den_app, den_nilL, den_consL, den_add, den_sub, den_mul, den_tdiv, den_tmod, den_mx, den_mn, den_blit, den_bin, binI, and_true]
theorem facts_app {env : Env} : ∀ {a b : List BE}, factsP env (a ++ b) ↔ factsP env a ∧ factsP env b
  | [], b => by simp [factsP]
  | x :: a, b => by simp only [List.cons_append, factsP, facts_app, and_assoc]
theorem nBP {env : Env} : factsP env nB ↔ 1 ≤ env.v 0 ∧ env.v 0 ≤ 16 := betP
theorem ups {env : Env} (l : List Int) {j : Nat} (hj : j < 3) : (env.upd 3 l).v j = env.v j := if_pos hj
theorem okAP {env : Env} (h : Good env.f) : okA.den env = true ↔ allV env.f (env.v 0) := by
  unfold okA
  simp only [den_lit, den_var, den_ite, den_cmp, den_cmpB, den_tst, den_tstF, den_negT, den_negF, den_andT, den_andF, lssT, leqT, gtrT, geqT, eqlT, neqT, lssF, leqF, gtrF, geqF, eqlF, neqF, den_app, den_nilL, den_consL, den_add, den_sub, den_mul, den_tdiv, den_tmod, den_mx, den_mn, den_blit, den_bin, binI, h.h20]
  by_cases ht : allV env.f (env.v 0)
  · simp [ht]
  · simp [ht]
theorem allV_nat {f : Fn} {n : Int} (h : allV f n) : ∀ j, j < n.toNat → vAt f j := fun j hj => h j (by omega)
theorem nil_den {env : Env} (h : Good env.f) : nilE.den env = enc [] := by
  show env.f 1000 [] = _
  rw [h.rows 1000 _ (by decide) (by decide), rowOp_lit]
theorem snoc {env : Env} (h : Good env.f) (l : List Int) (y : Int) : env.f 1001 [enc l, y] = enc (l ++ [y]) := by
  rw [h.rows 1001 _ (by decide) (by decide), rowOp_snoc, dec_enc]
/-! ### all are spans -/
theorem A_runs {env : Env} {t : Nat} {kp : List Nat} {ct : CT} (hev : ∀ i : Nat, ct.ev (env.upd 3 [(i : Int)]) = if (i : Int) < env.v 0 then (if vAt env.f i then some (0, [((i + 1 : Nat) : Int)]) else some (2, [])) else some (1, [])) (h1 : 1 ≤ env.v 0 ∧ env.v 0 ≤ 16) :
    ∀ (q i : Nat), (env.v 0).toNat - i ≤ q → (i : Int) ≤ env.v 0 → (∀ j, j < i → vAt env.f j) → (allV env.f (env.v 0) → Runs env (loopA t kp ct) [(i : Int)] 0 []) ∧ (¬ allV env.f (env.v 0) → Runs env (loopA t kp ct) [(i : Int)] 1 [])
  | q, i, hq, hi, hb => by
      have hh : HeadOK env (loopA t kp ct) [(i : Int)] := by
        rw [headOK_iff]
        exact ⟨⟨(by show 0 ≤ (i : Int) ∧ (i : Int) ≤ 16; omega), trivial⟩, nBP.2 h1⟩
      have ev : (loopA t kp ct).ct.ev (env.upd (loopA t kp ct).base [(i : Int)]) = _ := hev i
      by_cases hlt : (i : Int) < env.v 0
      · rw [if_pos hlt] at ev
        by_cases hP : vAt env.f i
        · rw [if_pos hP] at ev
          cases q with
          | zero => omega
          | succ q =>
            obtain ⟨r1, r2⟩ := A_runs hev h1 q (i + 1) (by omega) (by omega) (fun j hj => by
              by_cases hji : j = i
              · rw [hji]; exact hP
              · exact hb j (by omega))
            exact ⟨fun e => .again hh ev (r1 e), fun e => .again hh ev (r2 e)⟩
        · rw [if_neg hP] at ev
          exact ⟨fun e => absurd (e i hlt) hP, fun _ => .exit hh ev⟩
      · rw [if_neg hlt] at ev
        exact ⟨fun _ => .exit hh ev, fun e => absurd (fun j hj => hb j (by omega)) e⟩
open Classical in
theorem A_ok {env : Env} (h : Good env.f) {t : Nat} {kp : List Nat} {ct : CT} (hev : ∀ i : Nat, ct.ev (env.upd 3 [(i : Int)]) = if (i : Int) < env.v 0 then (if vAt env.f i then some (0, [((i + 1 : Nat) : Int)]) else some (2, [])) else some (1, [])) : LoopOK env (loopA t kp ct) := by
  intro l hl hh hp
  obtain ⟨i, rfl⟩ := len1 hl
  rw [headOK_iff] at hh
  have h1 := nBP.1 hh.2
  rw [show (loopA t kp ct).base = 3 from rfl, ups _ (show 0 < 3 by decide)] at h1
  have p1 := hp (z0 3) (by simp [loopA])
  rw [show (loopA t kp ct).base = 3 from rfl] at p1
  simp only [z0, den_cmpB, eqlT, den_var, den_lit] at p1
  have p1' : i = 0 := p1
  subst p1'
  obtain ⟨r1, r2⟩ := A_runs (t := t) (kp := kp) hev h1 _ 0 (Nat.le_refl _) (by omega) (fun j hj => absurd hj (by omega))
  have eK : env.f (loopA t kp ct).K ([0] ++ denL env (loopA t kp ct).ex) = if allV env.f (env.v 0) then 0 else 1 := h.h20 ..
  by_cases hf : allV env.f (env.v 0)
  · rw [if_pos hf] at eK
    exact ⟨0, [], _, r1 hf, rfl, eK, fun j hj => absurd hj (Nat.not_lt_zero _), by simp [loopA], by simp [loopA]⟩
  · rw [if_neg hf] at eK
    exact ⟨1, [], _, r2 hf, rfl, eK, fun j hj => absurd hj (Nat.not_lt_zero _), by simp [loopA], by simp [loopA]⟩
theorem A_ev1 {env : Env} : ∀ i : Nat, cA.ev (env.upd 3 [(i : Int)]) = if (i : Int) < env.v 0 then (if vAt env.f i then some (0, [((i + 1 : Nat) : Int)]) else some (2, [])) else some (1, []) := fun i => by
  have v3 : (env.upd 3 [(i : Int)]).v 3 = (i : Int) := rfl
  simp only [cA, ct_ite, ct_again, ct_exit, den_lit, den_var, den_ite, den_cmp, den_cmpB, den_tst, den_tstF, den_negT, den_negF, den_andT, den_andF, lssT, leqT, gtrT, geqT, eqlT, neqT, lssF, leqF, gtrF, geqF, eqlF, neqF, den_app, den_nilL, den_consL, den_add, den_sub, den_mul, den_tdiv, den_tmod, den_mx, den_mn, den_blit, den_bin, binI, upd_f, ups _ (show 0 < 3 by decide), v3]
  by_cases c1 : (i : Int) < env.v 0
  · rw [if_pos c1, if_pos c1]
    by_cases hP : vAt env.f i
    · rw [if_pos hP]
      unfold vAt at hP
      repeat' split
      all_goals first | rfl | (exfalso; omega)
    · rw [if_neg hP]
      repeat' split
      all_goals first | rfl | (exfalso; exact hP (by unfold vAt; omega))
  · rw [if_neg c1, if_neg c1]
theorem A_ev2 {env : Env} : ∀ i : Nat, cA2.ev (env.upd 3 [(i : Int)]) = if (i : Int) < env.v 0 then (if vAt env.f i then some (0, [((i + 1 : Nat) : Int)]) else some (2, [])) else some (1, []) := fun i => by
  have v3 : (env.upd 3 [(i : Int)]).v 3 = (i : Int) := rfl
  simp only [cA2, ct_ite, ct_again, ct_exit, den_lit, den_var, den_ite, den_cmp, den_cmpB, den_tst, den_tstF, den_negT, den_negF, den_andT, den_andF, lssT, leqT, gtrT, geqT, eqlT, neqT, lssF, leqF, gtrF, geqF, eqlF, neqF, den_app, den_nilL, den_consL, den_add, den_sub, den_mul, den_tdiv, den_tmod, den_mx, den_mn, den_blit, den_bin, binI, upd_f, ups _ (show 0 < 3 by decide), v3]
  by_cases c1 : (i : Int) < env.v 0
  · rw [if_pos c1, if_pos c1]
    by_cases hP : vAt env.f i
    · rw [if_pos hP]
      unfold vAt at hP
      repeat' split
      all_goals first | rfl | (exfalso; omega)
    · rw [if_neg hP]
      repeat' split
      all_goals first | rfl | (exfalso; exact hP (by unfold vAt; omega))
  · rw [if_neg c1, if_neg c1]
/-! ### the liars -/
theorem L_runs {env : Env} (h : Good env.f) {t r : Nat} {kp : List Nat} {ct : CT} (h1 : 1 ≤ env.v 0 ∧ env.v 0 ≤ 16) (hV : allV env.f (env.v 0))
    (hev : ∀ (i : Nat) (l c : Int), ((i : Int) < env.v 0 → vAt env.f i) → ct.ev (env.upd 3 [(i : Int), l, c]) = if (i : Int) < env.v 0 then (if hasAt env.f (env.v 2) i then some (0, [((i + 1 : Nat) : Int), l, c]) else some (0, [((i + 1 : Nat) : Int), l + 1, env.f 1001 [c, (i : Int)]])) else some (1, [l, c])) :
    ∀ (q i : Nat), (env.v 0).toNat - i ≤ q → (i : Int) ≤ env.v 0 → Runs env (loopL t r kp ct) [(i : Int), ((lst env.f (env.v 2) i).length : Int), enc (lst env.f (env.v 2) i)] 0 [((lst env.f (env.v 2) (env.v 0).toNat).length : Int), enc (lst env.f (env.v 2) (env.v 0).toNat)]
  | q, i, hq, hi => by
      have hle := lst_le env.f (env.v 2) i
      have hh : HeadOK env (loopL t r kp ct) [(i : Int), ((lst env.f (env.v 2) i).length : Int), enc (lst env.f (env.v 2) i)] := by
        rw [headOK_iff]
        refine ⟨⟨?_, ?_, trivial⟩, ?_⟩
        · show 0 ≤ (i : Int) ∧ (i : Int) ≤ 16
          omega
        · show 0 ≤ ((lst env.f (env.v 2) i).length : Int) ∧ ((lst env.f (env.v 2) i).length : Int) ≤ 16
          omega
        · show factsP (env.upd 3 _) (nB ++ ([okA, .cmp .leq (.var 4) (.var 3)] : List BE))
          rw [facts_app, nBP]
          refine ⟨h1, (okAP (env := env.upd 3 _) h).2 hV, ?_, trivial⟩
          simp only [den_lit, den_var, den_ite, den_cmp, den_cmpB, den_tst, den_tstF, den_negT, den_negF, den_andT, den_andF, lssT, leqT, gtrT, geqT, eqlT, neqT, lssF, leqF, gtrF, geqF, eqlF, neqF, den_app, den_nilL, den_consL, den_add, den_sub, den_mul, den_tdiv, den_tmod, den_mx, den_mn, den_blit, den_bin, binI]
          show ((lst env.f (env.v 2) i).length : Int) ≤ (i : Int)
          omega
      have ev : (loopL t r kp ct).ct.ev (env.upd (loopL t r kp ct).base [(i : Int), ((lst env.f (env.v 2) i).length : Int), enc (lst env.f (env.v 2) i)]) = _ := hev i _ _ (fun c => hV i c)
      by_cases hlt : (i : Int) < env.v 0
      · rw [if_pos hlt] at ev
        cases q with
        | zero => omega
        | succ q =>
          have rr := L_runs h (t := t) (r := r) (kp := kp) h1 hV hev q (i + 1) (by omega) (by omega)
          by_cases hP : hasAt env.f (env.v 2) i
          · rw [if_pos hP] at ev
            rw [show lst env.f (env.v 2) (i + 1) = lst env.f (env.v 2) i from if_pos hP] at rr
            exact .again hh ev rr
          · rw [if_neg hP, snoc h] at ev
            rw [show lst env.f (env.v 2) (i + 1) = lst env.f (env.v 2) i ++ [(i : Int)] from if_neg hP, List.length_append] at rr
            exact .again hh ev rr
      · rw [if_neg hlt] at ev
        rw [show (env.v 0).toNat = i by omega]
        exact .exit hh ev
theorem L_ok {env : Env} (h : Good env.f) {t r : Nat} {kp : List Nat} {ct : CT}
    (hev : ∀ (i : Nat) (l c : Int), ((i : Int) < env.v 0 → vAt env.f i) → ct.ev (env.upd 3 [(i : Int), l, c]) = if (i : Int) < env.v 0 then (if hasAt env.f (env.v 2) i then some (0, [((i + 1 : Nat) : Int), l, c]) else some (0, [((i + 1 : Nat) : Int), l + 1, env.f 1001 [c, (i : Int)]])) else some (1, [l, c])) : LoopOK env (loopL t r kp ct) := by
  intro l hl hh hp
  obtain ⟨i, ln, c, rfl⟩ := len3 hl
  rw [headOK_iff] at hh
  have hf : factsP (env.upd 3 [i, ln, c]) (nB ++ ([okA, .cmp .leq (.var 4) (.var 3)] : List BE)) := hh.2
  rw [facts_app, nBP] at hf
  obtain ⟨h1, f1, _⟩ := hf
  rw [ups _ (show 0 < 3 by decide)] at h1
  have hV : allV env.f (env.v 0) := (okAP (env := env.upd 3 [i, ln, c]) h).1 f1
  have p1 := hp (z0 3) (by simp [loopL])
  have p2 := hp (z0 4) (by simp [loopL])
  have p3 := hp (.cmp .eql (.var 5) nilE) (by simp [loopL])
  rw [show (loopL t r kp ct).base = 3 from rfl] at p1 p2 p3
  have en : nilE.den (env.upd 3 [i, ln, c]) = enc [] := nil_den (env := env.upd 3 [i, ln, c]) h
  simp only [z0, den_cmpB, eqlT, den_var, den_lit, en] at p1 p2 p3
  have p1' : i = 0 := p1
  have p2' : ln = 0 := p2
  have p3' : c = enc [] := p3
  subst p1' p2' p3'
  have rr := L_runs h (t := t) (r := r) (kp := kp) h1 hV hev _ 0 (Nat.le_refl _) (by omega)
  refine ⟨0, _, _, rr, rfl, ?_, fun j hj => ?_, by simp [loopL], fun e lo hi hm => ?_⟩
  · exact h.h30 ..
  · have hj2 : j < 2 := hj
    rcases (by omega : j = 0 ∨ j = 1) with rfl | rfl
    · exact h.h31 ..
    · exact h.h32 ..
  · simp only [loopL, List.mem_singleton] at hm
    cases hm
    have hle := lst_le env.f (env.v 2) (env.v 0).toNat
    show 0 ≤ env.f 31 [0, 0, enc [], env.v 0, env.v 2] ∧ env.f 31 [0, 0, enc [], env.v 0, env.v 2] ≤ 16
    rw [h.h31]; omega
theorem L_ev1 {env : Env} : ∀ (i : Nat) (l c : Int), ((i : Int) < env.v 0 → vAt env.f i) → cL.ev (env.upd 3 [(i : Int), l, c]) = if (i : Int) < env.v 0 then (if hasAt env.f (env.v 2) i then some (0, [((i + 1 : Nat) : Int), l, c]) else some (0, [((i + 1 : Nat) : Int), l + 1, env.f 1001 [c, (i : Int)]])) else some (1, [l, c]) := fun i l c hv => by
  have v3 : (env.upd 3 [(i : Int), l, c]).v 3 = (i : Int) := rfl
  have v4 : (env.upd 3 [(i : Int), l, c]).v 4 = l := rfl
  have v5 : (env.upd 3 [(i : Int), l, c]).v 5 = c := rfl
  simp only [cL, ct_ite, ct_again, ct_exit, den_lit, den_var, den_ite, den_cmp, den_cmpB, den_tst, den_tstF, den_negT, den_negF, den_andT, den_andF, lssT, leqT, gtrT, geqT, eqlT, neqT, lssF, leqF, gtrF, geqF, eqlF, neqF, den_app, den_nilL, den_consL, den_add, den_sub, den_mul, den_tdiv, den_tmod, den_mx, den_mn, den_blit, den_bin, binI, upd_f, ups _ (show 0 < 3 by decide), ups _ (show 2 < 3 by decide), v3, v4, v5]
  by_cases c1 : (i : Int) < env.v 0
  · rw [if_pos c1, if_pos c1]
    have hv := hv c1
    unfold vAt at hv
    by_cases hP : hasAt env.f (env.v 2) i
    · rw [if_pos hP]
      unfold hasAt at hP
      repeat' split
      all_goals first | rfl | (exfalso; omega)
    · rw [if_neg hP]
      repeat' split
      all_goals first | rfl | (exfalso; exact hP (by unfold hasAt; omega))
  · rw [if_neg c1, if_neg c1]
theorem L_ev2 {env : Env} : ∀ (i : Nat) (l c : Int), ((i : Int) < env.v 0 → vAt env.f i) → cL2.ev (env.upd 3 [(i : Int), l, c]) = if (i : Int) < env.v 0 then (if hasAt env.f (env.v 2) i then some (0, [((i + 1 : Nat) : Int), l, c]) else some (0, [((i + 1 : Nat) : Int), l + 1, env.f 1001 [c, (i : Int)]])) else some (1, [l, c]) := fun i l c hv => by
  have v3 : (env.upd 3 [(i : Int), l, c]).v 3 = (i : Int) := rfl
  have v4 : (env.upd 3 [(i : Int), l, c]).v 4 = l := rfl
  have v5 : (env.upd 3 [(i : Int), l, c]).v 5 = c := rfl
  simp only [cL2, ct_ite, ct_again, ct_exit, den_lit, den_var, den_ite, den_cmp, den_cmpB, den_tst, den_tstF, den_negT, den_negF, den_andT, den_andF, lssT, leqT, gtrT, geqT, eqlT, neqT, lssF, leqF, gtrF, geqF, eqlF, neqF, den_app, den_nilL, den_consL, den_add, den_sub, den_mul, den_tdiv, den_tmod, den_mx, den_mn, den_blit, den_bin, binI, upd_f, ups _ (show 0 < 3 by decide), ups _ (show 2 < 3 by decide), v3, v4, v5]
  by_cases c1 : (i : Int) < env.v 0
  · rw [if_pos c1, if_pos c1]
    have hv := hv c1
    unfold vAt at hv
    by_cases hP : hasAt env.f (env.v 2) i
    · rw [if_pos hP]
      unfold hasAt at hP
      repeat' split
      all_goals first | rfl | (exfalso; omega)
    · rw [if_neg hP]
      repeat' split
      all_goals first | rfl | (exfalso; exact hP (by unfold hasAt; omega))
  · rw [if_neg c1, if_neg c1]
/-! ### the support -/
theorem S_ev {env : Env} : ∀ (i : Nat) (c : Int), ((i : Int) < env.v 0 → vAt env.f i) → cS.ev (env.upd 3 [(i : Int), c]) = if (i : Int) < env.v 0 then (if hasAt env.f (env.v 2) i then some (0, [((i + 1 : Nat) : Int), c + 1]) else some (0, [((i + 1 : Nat) : Int), c])) else some (1, [c]) := fun i c hv => by
  have v3 : (env.upd 3 [(i : Int), c]).v 3 = (i : Int) := rfl
  have v4 : (env.upd 3 [(i : Int), c]).v 4 = c := rfl
  simp only [cS, ct_ite, ct_again, ct_exit, den_lit, den_var, den_ite, den_cmp, den_cmpB, den_tst, den_tstF, den_negT, den_negF, den_andT, den_andF, lssT, leqT, gtrT, geqT, eqlT, neqT, lssF, leqF, gtrF, geqF, eqlF, neqF, den_app, den_nilL, den_consL, den_add, den_sub, den_mul, den_tdiv, den_tmod, den_mx, den_mn, den_blit, den_bin, binI, upd_f, ups _ (show 0 < 3 by decide), ups _ (show 2 < 3 by decide), v3, v4]
  by_cases c1 : (i : Int) < env.v 0
  · rw [if_pos c1, if_pos c1]
    have hv := hv c1
    unfold vAt at hv
    by_cases hP : hasAt env.f (env.v 2) i
    · rw [if_pos hP]
      unfold hasAt at hP
      repeat' split
      all_goals first | rfl | (exfalso; omega)
    · rw [if_neg hP]
      repeat' split
      all_goals first | rfl | (exfalso; exact hP (by unfold hasAt; omega))
  · rw [if_neg c1, if_neg c1]
theorem S_runs {env : Env} (h : Good env.f) (h1 : 1 ≤ env.v 0 ∧ env.v 0 ≤ 16) (hV : allV env.f (env.v 0)) :
    ∀ (q i : Nat), (env.v 0).toNat - i ≤ q → (i : Int) ≤ env.v 0 → Runs env (loopS cS) [(i : Int), (sup env.f (env.v 2) i : Int)] 0 [(sup env.f (env.v 2) (env.v 0).toNat : Int)]
  | q, i, hq, hi => by
      have hle := sup_le env.f (env.v 2) i
      have hh : HeadOK env (loopS cS) [(i : Int), (sup env.f (env.v 2) i : Int)] := by
        rw [headOK_iff]
        refine ⟨⟨?_, ?_, trivial⟩, ?_⟩
        · show 0 ≤ (i : Int) ∧ (i : Int) ≤ 16
          omega
        · show 0 ≤ (sup env.f (env.v 2) i : Int) ∧ (sup env.f (env.v 2) i : Int) ≤ 16
          omega
        · show factsP (env.upd 3 _) (nB ++ ([okA, .cmp .leq (.var 4) (.var 3)] : List BE))
          rw [facts_app, nBP]
          refine ⟨h1, (okAP (env := env.upd 3 _) h).2 hV, ?_, trivial⟩
          simp only [den_lit, den_var, den_ite, den_cmp, den_cmpB, den_tst, den_tstF, den_negT, den_negF, den_andT, den_andF, lssT, leqT, gtrT, geqT, eqlT, neqT, lssF, leqF, gtrF, geqF, eqlF, neqF, den_app, den_nilL, den_consL, den_add, den_sub, den_mul, den_tdiv, den_tmod, den_mx, den_mn, den_blit, den_bin, binI]
          show (sup env.f (env.v 2) i : Int) ≤ (i : Int)
          omega
      have ev : (loopS cS).ct.ev (env.upd (loopS cS).base [(i : Int), (sup env.f (env.v 2) i : Int)]) = _ := S_ev i _ (fun c => hV i c)
      by_cases hlt : (i : Int) < env.v 0
      · rw [if_pos hlt] at ev
        cases q with
        | zero => omega
        | succ q =>
          have rr := S_runs h h1 hV q (i + 1) (by omega) (by omega)
          by_cases hP : hasAt env.f (env.v 2) i
          · rw [if_pos hP] at ev
            rw [show sup env.f (env.v 2) (i + 1) = sup env.f (env.v 2) i + 1 from if_pos hP] at rr
            exact .again hh ev rr
          · rw [if_neg hP] at ev
            rw [show sup env.f (env.v 2) (i + 1) = sup env.f (env.v 2) i from if_neg hP] at rr
            exact .again hh ev rr
      · rw [if_neg hlt] at ev
        rw [show (env.v 0).toNat = i by omega]
        exact .exit hh ev
theorem S_ok {env : Env} (h : Good env.f) : LoopOK env (loopS cS) := by
  intro l hl hh hp
  obtain ⟨i, c, rfl⟩ := len2 hl
  rw [headOK_iff] at hh
  have hf : factsP (env.upd 3 [i, c]) (nB ++ ([okA, .cmp .leq (.var 4) (.var 3)] : List BE)) := hh.2
  rw [facts_app, nBP] at hf
  obtain ⟨h1, f1, _⟩ := hf
  rw [ups _ (show 0 < 3 by decide)] at h1
  have hV : allV env.f (env.v 0) := (okAP (env := env.upd 3 [i, c]) h).1 f1
  have p1 := hp (z0 3) (by simp [loopS])
  have p2 := hp (z0 4) (by simp [loopS])
  rw [show (loopS cS).base = 3 from rfl] at p1 p2
  simp only [z0, den_cmpB, eqlT, den_var, den_lit] at p1 p2
  have p1' : i = 0 := p1
  have p2' : c = 0 := p2
  subst p1' p2'
  have rr := S_runs h h1 hV _ 0 (Nat.le_refl _) (by omega)
  refine ⟨0, _, _, rr, rfl, ?_, fun j hj => ?_, by simp [loopS], fun e lo hi hm => ?_⟩
  · exact h.h40 ..
  · obtain rfl : j = 0 := by
      have : j < 1 := hj
      omega
    exact h.h41 ..
  · simp only [loopS, List.mem_singleton] at hm
    cases hm
    have hle := sup_le env.f (env.v 2) (env.v 0).toNat
    show 0 ≤ env.f 41 [0, 0, env.v 0, env.v 2] ∧ env.f 41 [0, 0, env.v 0, env.v 2] ≤ 16
    rw [h.h41]; omega
/-! ### the loop of the comparison -/
theorem I_runs {env : Env} (h : Good env.f) (hb : lE.den env ≤ 16) : ∀ (q i : Nat), (lE.den env).toNat - i ≤ q → (i : Int) ≤ lE.den env → Runs env (loopI cI) [(i : Int)] 0 []
  | q, i, hq, hi => by
      have eL : ∀ l, lE.den (env.upd 3 l) = lE.den env := fun l => by
        show env.f 31 [0, 0, nilE.den (env.upd 3 l), (env.upd 3 l).v 0, (env.upd 3 l).v 2] = env.f 31 [0, 0, nilE.den env, env.v 0, env.v 2]
        rw [ups _ (show 0 < 3 by decide), ups _ (show 2 < 3 by decide), nil_den (env := env.upd 3 l) h, nil_den h]
      have hh : HeadOK env (loopI cI) [(i : Int)] := by
        rw [headOK_iff]
        refine ⟨⟨(by show 0 ≤ (i : Int) ∧ (i : Int) ≤ 16; omega), trivial⟩, ?_⟩
        show factsP (env.upd 3 _) (bet lE 0 16)
        rw [betP, eL]; omega
      have ev : (loopI cI).ct.ev (env.upd (loopI cI).base [(i : Int)]) = if (i : Int) < lE.den env then some (0, [((i + 1 : Nat) : Int)]) else some (1, []) := by
        show CT.ev (env.upd 3 [(i : Int)]) (.ite (.cmp .lss (.var 3) lE) (.again [(.op .add (.var 3) (.lit 1))]) (.exit 0 [])) = _
        rw [ct_ite]
        simp only [den_cmpB, lssT, den_var, eL, show (env.upd 3 [(i : Int)]).v 3 = (i : Int) from rfl]
        split <;> rfl
      by_cases hlt : (i : Int) < lE.den env
      · rw [if_pos hlt] at ev
        cases q with
        | zero => omega
        | succ q => exact .again hh ev (I_runs h hb q (i + 1) (by omega) (by omega))
      · rw [if_neg hlt] at ev
        exact .exit hh ev
theorem I_ok {env : Env} (h : Good env.f) : LoopOK env (loopI cI) := by
  intro l hl hh hp
  obtain ⟨i, rfl⟩ := len1 hl
  rw [headOK_iff] at hh
  have hf : factsP (env.upd 3 [i]) (bet lE 0 16) := hh.2
  rw [betP] at hf
  have eL : lE.den (env.upd 3 [i]) = lE.den env := by
    show env.f 31 [0, 0, nilE.den (env.upd 3 [i]), (env.upd 3 [i]).v 0, (env.upd 3 [i]).v 2] = env.f 31 [0, 0, nilE.den env, env.v 0, env.v 2]
    rw [ups _ (show 0 < 3 by decide), ups _ (show 2 < 3 by decide), nil_den (env := env.upd 3 [i]) h, nil_den h]
  rw [eL] at hf
  have p1 := hp (z0 3) (by simp [loopI])
  rw [show (loopI cI).base = 3 from rfl] at p1
  simp only [z0, den_cmpB, eqlT, den_var, den_lit] at p1
  have p1' : i = 0 := p1
  subst p1'
  have rr := I_runs h hf.2 _ 0 (Nat.le_refl _) (by omega)
  exact ⟨0, _, _, rr, rfl, h.h50 .., fun j hj => absurd hj (Nat.not_lt_zero _), by simp [loopI], by simp [loopI]⟩
end Go.Proofs.Ytkdmnjpkimnmbaa
