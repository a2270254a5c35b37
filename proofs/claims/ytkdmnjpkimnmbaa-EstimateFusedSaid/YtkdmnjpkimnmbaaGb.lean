/- The loops of the law, its contracts. -/
import Derived.Test.YtkdmnjpkimnmbaaGa
namespace Go.Proofs.Ytkdmnjpkimnmbaa
open Go Go.SX Go.RowKit
set_option linter.unusedVariables false
set_option linter.unusedSimpArgs false
set_option maxRecDepth 100000
set_option maxHeartbeats 4000000
theorem ups2 {env : Env} (l : List Int) {j : Nat} (hj : j < 2) : (env.upd 2 l).v j = env.v j := if_pos hj
theorem M_ev {env : Env} (i : Nat) (a b c a' b' c' : Int) (hc : c = 0 ∨ c = 1) (hv : (i = 0 ∧ a = env.f 5000 [0] ∧ b = env.f 5001 [0]) ∨ (-1099511627776 ≤ a ∧ a ≤ b ∧ b ≤ 1099511627776))
    (hs : (max a (env.f 5000 [(i : Int)]) ≤ min b (env.f 5001 [(i : Int)]) ∧ c = 1 ∧ a' = max a (env.f 5000 [(i : Int)]) ∧ b' = min b (env.f 5001 [(i : Int)]) ∧ c' = 1) ∨ (¬ (max a (env.f 5000 [(i : Int)]) ≤ min b (env.f 5001 [(i : Int)]) ∧ c = 1) ∧ a' = a ∧ b' = b ∧ c' = 0)) :
    cM.ev (env.upd 2 [(i : Int), a, b, c]) = if (i : Int) < env.v 0 then (if vAt env.f i then some (0, [((i + 1 : Nat) : Int), a', b', c']) else some (2, [a, b])) else some (1, [a, b, c]) := by
  have v2 : (env.upd 2 [(i : Int), a, b, c]).v 2 = (i : Int) := rfl
  have v3 : (env.upd 2 [(i : Int), a, b, c]).v 3 = a := rfl
  have v4 : (env.upd 2 [(i : Int), a, b, c]).v 4 = b := rfl
  have v5 : (env.upd 2 [(i : Int), a, b, c]).v 5 = c := rfl
  have ec : (if c = 0 then (0 : Int) else 1) = c := by rcases hc with rfl | rfl <;> rfl
  simp only [cM, ct_ite, ct_again, ct_exit, den_lit, den_var, den_ite, den_cmp, den_cmpB, den_tst, den_tstF, den_negT, den_negF, den_andT, den_andF, lssT, leqT, gtrT, geqT, eqlT, neqT, lssF, leqF, gtrF, geqF, eqlF, neqF, den_app, den_nilL, den_consL, den_add, den_sub, den_mul, den_tdiv, den_tmod, den_mx, den_mn, den_blit, den_bin, binI, upd_f, ups2 _ (show 0 < 2 by decide), v2, v3, v4, v5, ec]
  by_cases c1 : (i : Int) < env.v 0
  · rw [if_pos c1, if_pos c1]
    by_cases hP : vAt env.f i
    · rw [if_pos hP]
      unfold vAt at hP
      have hv' : -1099511627776 ≤ a ∧ a ≤ b ∧ b ≤ 1099511627776 := by
        rcases hv with ⟨h0, h1, h2⟩ | h
        · subst h0 h1 h2; exact ⟨hP.1, hP.2.2.2.2, hP.2.2.2.1⟩
        · exact h
      rw [if_pos hP.1, if_pos hP.2.1, if_pos hP.2.2.1, if_pos hP.2.2.2.1, if_neg (show ¬ env.f 5001 [(i : Int)] < env.f 5000 [(i : Int)] by omega), if_pos hv'.1, if_neg (show ¬ 1099511627776 < a by omega), if_pos (show -1099511627776 ≤ b by omega), if_neg (show ¬ 1099511627776 < b by omega), if_neg (show ¬ b < a by omega)]
      rcases hs with ⟨hm, q1, q2, q3, q4⟩ | ⟨hm, q2, q3, q4⟩
      · subst q2 q3 q4
        rw [if_neg (show ¬ min b (env.f 5001 [(i : Int)]) < max a (env.f 5000 [(i : Int)]) by omega), if_pos (show ¬ c = 0 by omega)]
        rfl
      · subst q2 q3 q4
        by_cases hl : min b' (env.f 5001 [(i : Int)]) < max a' (env.f 5000 [(i : Int)])
        · rw [if_pos hl]
          by_cases c0 : c = 0
          · rw [if_neg (fun z => z c0)]; rfl
          · rw [if_pos c0]; rfl
        · have c0 : c = 0 := by
            rcases hc with z | z
            · exact z
            · exact absurd ⟨by omega, z⟩ hm
          rw [if_neg hl, if_neg (fun z => z c0)]; rfl
    · rw [if_neg hP]
      by_cases t1 : -1099511627776 ≤ env.f 5000 [(i : Int)]
      · rw [if_pos t1]
        by_cases t2 : env.f 5000 [(i : Int)] ≤ 1099511627776
        · rw [if_pos t2]
          by_cases t3 : -1099511627776 ≤ env.f 5001 [(i : Int)]
          · rw [if_pos t3]
            by_cases t4 : env.f 5001 [(i : Int)] ≤ 1099511627776
            · rw [if_pos t4]
              by_cases t5 : env.f 5001 [(i : Int)] < env.f 5000 [(i : Int)]
              · rw [if_pos t5]
              · exact absurd ⟨t1, t2, t3, t4, by omega⟩ hP
            · rw [if_neg t4]
          · rw [if_neg t3]
        · rw [if_neg t2]
      · rw [if_neg t1]
  · rw [if_neg c1, if_neg c1]
theorem M_runs {env : Env} (h : Good2 env.f) (b : Nat) (h1 : 1 ≤ env.v 0 ∧ env.v 0 ≤ 16) : ∀ (q i : Nat), (env.v 0).toNat - i ≤ q → (i : Int) ≤ env.v 0 → (∀ j, j < i → vAt env.f j) →
    (allV env.f (env.v 0) → Runs env (loopM b cM) [(i : Int), (mm env.f i).1, (mm env.f i).2.1, (mm env.f i).2.2] 0 [(mm env.f (env.v 0).toNat).1, (mm env.f (env.v 0).toNat).2.1, (mm env.f (env.v 0).toNat).2.2]) ∧
    (¬ allV env.f (env.v 0) → Runs env (loopM b cM) [(i : Int), (mm env.f i).1, (mm env.f i).2.1, (mm env.f i).2.2] 1 [(mm env.f (fb env.f (env.v 0).toNat)).1, (mm env.f (fb env.f (env.v 0).toNat)).2.1])
  | q, i, hq, hi, hb => by
      have hh : HeadOK env (loopM b cM) [(i : Int), (mm env.f i).1, (mm env.f i).2.1, (mm env.f i).2.2] := by
        rw [headOK_iff]
        refine ⟨⟨(by show 0 ≤ (i : Int) ∧ (i : Int) ≤ 16; omega), trivial⟩, nBP.2 h1⟩
      have hv : (i = 0 ∧ (mm env.f i).1 = env.f 5000 [0] ∧ (mm env.f i).2.1 = env.f 5001 [0]) ∨ (-1099511627776 ≤ (mm env.f i).1 ∧ (mm env.f i).1 ≤ (mm env.f i).2.1 ∧ (mm env.f i).2.1 ≤ 1099511627776) := by
        cases i with
        | zero => exact .inl ⟨rfl, rfl, rfl⟩
        | succ i =>
          refine .inr ?_
          have ih := mm_ok (f := env.f) i hb
          have hvi := hb i (by omega)
          unfold vAt at hvi
          unfold mm
          split
          · rename_i hc
            refine ⟨?_, hc.1, ?_⟩ <;> simp only <;> omega
          · exact ih
      have hs : (max (mm env.f i).1 (env.f 5000 [(i : Int)]) ≤ min (mm env.f i).2.1 (env.f 5001 [(i : Int)]) ∧ (mm env.f i).2.2 = 1 ∧ (mm env.f (i + 1)).1 = max (mm env.f i).1 (env.f 5000 [(i : Int)]) ∧ (mm env.f (i + 1)).2.1 = min (mm env.f i).2.1 (env.f 5001 [(i : Int)]) ∧ (mm env.f (i + 1)).2.2 = 1) ∨
          (¬ (max (mm env.f i).1 (env.f 5000 [(i : Int)]) ≤ min (mm env.f i).2.1 (env.f 5001 [(i : Int)]) ∧ (mm env.f i).2.2 = 1) ∧ (mm env.f (i + 1)).1 = (mm env.f i).1 ∧ (mm env.f (i + 1)).2.1 = (mm env.f i).2.1 ∧ (mm env.f (i + 1)).2.2 = 0) := by
        have em : mm env.f (i + 1) = if max (mm env.f i).1 (env.f 5000 [(i : Int)]) ≤ min (mm env.f i).2.1 (env.f 5001 [(i : Int)]) ∧ (mm env.f i).2.2 = 1 then (max (mm env.f i).1 (env.f 5000 [(i : Int)]), min (mm env.f i).2.1 (env.f 5001 [(i : Int)]), 1) else ((mm env.f i).1, (mm env.f i).2.1, 0) := rfl
        rw [em]
        by_cases hc : max (mm env.f i).1 (env.f 5000 [(i : Int)]) ≤ min (mm env.f i).2.1 (env.f 5001 [(i : Int)]) ∧ (mm env.f i).2.2 = 1
        · rw [if_pos hc]; exact .inl ⟨hc.1, hc.2, rfl, rfl, rfl⟩
        · rw [if_neg hc]; exact .inr ⟨hc, rfl, rfl, rfl⟩
      have ev : (loopM b cM).ct.ev (env.upd (loopM b cM).base [(i : Int), (mm env.f i).1, (mm env.f i).2.1, (mm env.f i).2.2]) = _ := M_ev i _ _ _ (mm env.f (i + 1)).1 (mm env.f (i + 1)).2.1 (mm env.f (i + 1)).2.2 (mm_bit env.f i) hv hs
      by_cases hlt : (i : Int) < env.v 0
      · rw [if_pos hlt] at ev
        by_cases hP : vAt env.f i
        · rw [if_pos hP] at ev
          cases q with
          | zero => omega
          | succ q =>
            obtain ⟨r1, r2⟩ := M_runs h b h1 q (i + 1) (by omega) (by omega) (fun j hj => by
              by_cases hji : j = i
              · rw [hji]; exact hP
              · exact hb j (by omega))
            exact ⟨fun e => .again hh ev (r1 e), fun e => .again hh ev (r2 e)⟩
        · rw [if_neg hP] at ev
          rw [fb_at (n := (env.v 0).toNat) (by omega) hb hP]
          exact ⟨fun e => absurd (e i hlt) hP, fun _ => .exit hh ev⟩
      · rw [if_neg hlt] at ev
        have hn : (env.v 0).toNat = i := by omega
        rw [hn]
        exact ⟨fun _ => .exit hh ev, fun e => absurd (fun j hj => hb j (by omega)) e⟩
open Classical in
theorem M_ok {env : Env} (h : Good2 env.f) (b : Nat) : LoopOK env (loopM b cM) := by
  intro l hl hh hp
  obtain ⟨i, x, y, z, rfl⟩ := len4 hl
  rw [headOK_iff] at hh
  have h1 := nBP.1 hh.2
  rw [show (loopM b cM).base = 2 from rfl, ups2 _ (show 0 < 2 by decide)] at h1
  have p1 := hp (z0 2) (by simp [loopM])
  have p2 := hp (.cmp .eql (.var 3) (.app 5000 [.lit 0])) (by simp [loopM])
  have p3 := hp (.cmp .eql (.var 4) (.app 5001 [.lit 0])) (by simp [loopM])
  have p4 := hp (.cmp .eql (.var 5) (.lit 1)) (by simp [loopM])
  rw [show (loopM b cM).base = 2 from rfl] at p1 p2 p3 p4
  simp only [z0, den_cmpB, eqlT, den_var, den_lit, den_app, den_consL, den_nilL, upd_f] at p1 p2 p3 p4
  have p1' : i = 0 := p1
  have p2' : x = env.f 5000 [0] := p2
  have p3' : y = env.f 5001 [0] := p3
  have p4' : z = 1 := p4
  subst p1' p2' p3' p4'
  obtain ⟨r1, r2⟩ := M_runs h b h1 _ 0 (Nat.le_refl _) (by omega) (fun j hj => absurd hj (by omega))
  have eK : env.f (loopM b cM).K ([0, env.f 5000 [0], env.f 5001 [0], 1] ++ denL env (loopM b cM).ex) = if allV env.f (env.v 0) then 0 else 1 := h.h120 ..
  by_cases hf : allV env.f (env.v 0)
  · rw [if_pos hf] at eK
    refine ⟨0, _, _, r1 hf, rfl, eK, fun j hj => ?_, by simp [loopM], by simp [loopM]⟩
    have hj3 : j < 3 := hj
    have ef := fb_all (f := env.f) (allV_nat hf)
    rcases (by omega : j = 0 ∨ j = 1 ∨ j = 2) with rfl | rfl | rfl
    · exact (h.h121 ..).trans (by show (mm env.f (fb env.f (env.v 0).toNat)).1 = _; rw [ef]; rfl)
    · exact (h.h122 ..).trans (by show (mm env.f (fb env.f (env.v 0).toNat)).2.1 = _; rw [ef]; rfl)
    · exact (h.h123 ..).trans (by show (mm env.f (fb env.f (env.v 0).toNat)).2.2 = _; rw [ef]; rfl)
  · rw [if_neg hf] at eK
    refine ⟨1, _, _, r2 hf, rfl, eK, fun j hj => ?_, by simp [loopM], by simp [loopM]⟩
    have hj2 : j < 2 := hj
    rcases (by omega : j = 0 ∨ j = 1) with rfl | rfl
    · exact h.h121 ..
    · exact h.h122 ..
/-! ### the loop over the liars -/
theorem xBP {env : Env} {v : Nat} : factsP env (xB v) ↔ -1099511627776 ≤ env.v v ∧ env.v v ≤ 1099511627776 := betP
theorem facDP {env : Env} (h : Good env.f) : factsP env (nB ++ [okA] ++ xB 1) ↔ (1 ≤ env.v 0 ∧ env.v 0 ≤ 16) ∧ allV env.f (env.v 0) ∧ -1099511627776 ≤ env.v 1 ∧ env.v 1 ≤ 1099511627776 := by
  rw [facts_app, facts_app, nBP, xBP]
  have e : factsP env [okA] ↔ allV env.f (env.v 0) := by
    simp only [factsP, and_true]; exact okAP h
  rw [e, and_assoc]
theorem D_ev {env : Env} (i : Nat) (a b c : Int) (hlt : (i : Int) < env.v 0) {L H E A m1 m2 bad : Int} (eL : env.f 110 [env.v 0, (i : Int)] = L) (eH : env.f 111 [env.v 0, (i : Int)] = H) (eE : env.f 112 [env.v 0, (i : Int)] = E)
    (eA : env.f 123 [0, env.f 5000 [0], env.f 5001 [0], 1, env.v 0] = A) (e1 : env.f 121 [0, env.f 5000 [0], env.f 5001 [0], 1, env.v 0] = m1) (e2 : env.f 122 [0, env.f 5000 [0], env.f 5001 [0], 1, env.v 0] = m2) (eB : env.f 101 [env.v 0, env.v 1] = bad)
    (hE : E = 0 ∨ E = 5) (hc : c = 0 ∨ c = 1) (hA : A = 0 ∨ A = 1) (hT : c = 1 → E = 0 ∧ -1099511627776 ≤ a ∧ a ≤ b ∧ b ≤ 1099511627776 ∧ L ≤ a ∧ b ≤ H) (hx : bad ≤ (i : Int) → E = 0 ∧ L ≤ env.v 1 ∧ env.v 1 ≤ H) (hz : E = 0 → L ≤ H)
    (h0 : i = 0 → (E = 0 ↔ A = 1) ∧ (E = 0 → L = m1 ∧ H = m2)) : cD.ev (env.upd 2 [(i : Int), a, b, c]) = some (0, [((i + 1 : Nat) : Int), L, H, if E = 0 then 1 else 0]) := by
  have v2 : (env.upd 2 [(i : Int), a, b, c]).v 2 = (i : Int) := rfl
  have v3 : (env.upd 2 [(i : Int), a, b, c]).v 3 = a := rfl
  have v4 : (env.upd 2 [(i : Int), a, b, c]).v 4 = b := rfl
  have v5 : (env.upd 2 [(i : Int), a, b, c]).v 5 = c := rfl
  simp only [cD, ct_ite, ct_again, ct_exit, den_lit, den_var, den_ite, den_cmp, den_cmpB, den_tst, den_tstF, den_negT, den_negF, den_andT, den_andF, lssT, leqT, gtrT, geqT, eqlT, neqT, lssF, leqF, gtrF, geqF, eqlF, neqF, den_app, den_nilL, den_consL, den_add, den_sub, den_mul, den_tdiv, den_tmod, den_mx, den_mn, den_blit, den_bin, binI, upd_f, ups2 _ (show 0 < 2 by decide), ups2 _ (show 1 < 2 by decide), v2, v3, v4, v5, eL, eH, eE, eA, e1, e2, eB]
  rw [if_pos hlt]
  have h0' : (i : Int) = 0 → (E = 0 ↔ A = 1) ∧ (E = 0 → L = m1 ∧ H = m2) := fun z => h0 (by omega)
  clear h0 eL eH eE eA e1 e2 eB v2 v3 v4 v5
  generalize env.v 1 = x at *
  rcases hE with hE | hE
  · have hz := hz hE
    rw [if_pos hE, if_neg (fun z => z hE)]
    by_cases c0 : c = 0
    · rw [if_neg (fun z => z c0)]
      by_cases cb : bad ≤ (i : Int)
      · have hx := hx cb
        rw [if_pos cb, if_neg (show ¬ H < L by omega), if_pos hx.2.1, if_neg (show ¬ H < x by omega)]
        by_cases ci : (i : Int) = 0
        · have h0 := h0' ci
          rw [if_pos ci, if_neg (show ¬ A = 0 by omega), if_neg (show ¬ (L ≠ m1 ∨ H ≠ m2) by omega)]; rfl
        · rw [if_neg ci]; rfl
      · rw [if_neg cb]
        by_cases ci : (i : Int) = 0
        · have h0 := h0' ci
          rw [if_pos ci, if_neg (show ¬ A = 0 by omega), if_neg (show ¬ (L ≠ m1 ∨ H ≠ m2) by omega)]; rfl
        · rw [if_neg ci]; rfl
    · have hT := hT (by omega)
      rw [if_pos c0, if_pos hT.2.1, if_neg (show ¬ 1099511627776 < a by omega), if_pos (show -1099511627776 ≤ b by omega), if_neg (show ¬ 1099511627776 < b by omega), if_neg (show ¬ b < a by omega), if_neg (show ¬ H < L by omega), if_pos (show L ≤ a by omega), if_pos (show a ≤ H by omega), if_pos (show L ≤ b by omega), if_neg (show ¬ H < b by omega)]
      by_cases cb : bad ≤ (i : Int)
      · have hx := hx cb
        rw [if_pos cb, if_pos hx.2.1, if_neg (show ¬ H < x by omega)]
        by_cases ci : (i : Int) = 0
        · have h0 := h0' ci
          rw [if_pos ci, if_neg (show ¬ A = 0 by omega), if_neg (show ¬ (L ≠ m1 ∨ H ≠ m2) by omega)]; rfl
        · rw [if_neg ci]; rfl
      · rw [if_neg cb]
        by_cases ci : (i : Int) = 0
        · have h0 := h0' ci
          rw [if_pos ci, if_neg (show ¬ A = 0 by omega), if_neg (show ¬ (L ≠ m1 ∨ H ≠ m2) by omega)]; rfl
        · rw [if_neg ci]; rfl
  · have nb : ¬ bad ≤ (i : Int) := fun z => by have := hx z; omega
    have nc : c = 0 := by
      rcases hc with z | z
      · exact z
      · have := hT z; omega
    rw [if_neg (show ¬ E = 0 by omega), if_pos (show E ≠ 0 by omega), if_neg (show ¬ E ≠ 5 by omega), if_neg (fun z => z nc), if_neg nb]
    by_cases ci : (i : Int) = 0
    · have h0 := h0' ci
      rw [if_pos ci, if_neg (show ¬ ¬ A = 0 by omega)]; rfl
    · rw [if_neg ci]; rfl
/-- what is found with so many liars -/
def fe (f : Fn) (n m : Int) : Int := if pF f n.toNat m n.toNat = 0 then 5 else 0
def fl1 (f : Fn) (n m : Int) : Int := if pF f n.toNat m n.toNat = 0 then 0 else pLo f n.toNat m n.toNat
def fh1 (f : Fn) (n m : Int) : Int := if pF f n.toNat m n.toNat = 0 then 0 else pHi f n.toNat m n.toNat
theorem fe_zero {f : Fn} {n m : Int} : fe f n m = 0 ↔ pF f n.toNat m n.toNat = 1 := by
  have := pF_is f n.toNat m n.toNat
  unfold fe
  split <;> omega
theorem fe_one {f : Fn} {n m : Int} (h : pF f n.toNat m n.toNat = 1) : fl1 f n m = pLo f n.toNat m n.toNat ∧ fh1 f n m = pHi f n.toNat m n.toNat := by
  unfold fl1 fh1
  rw [if_neg (by omega), if_neg (by omega)]; exact ⟨rfl, rfl⟩
/-- the state at a head -/
def stD (f : Fn) (n : Int) : Nat → List Int
  | 0 => [0, 0, 0, 0]
  | i + 1 => [((i + 1 : Nat) : Int), fl1 f n (i : Int), fh1 f n (i : Int), if fe f n (i : Int) = 0 then 1 else 0]
theorem D_runs {env : Env} (h : Good2 env.f) (b : Nat) (h1 : 1 ≤ env.v 0 ∧ env.v 0 ≤ 16) (hV : allV env.f (env.v 0)) (hx : -1099511627776 ≤ env.v 1 ∧ env.v 1 ≤ 1099511627776) : ∀ (q i : Nat), (env.v 0).toNat - i ≤ q → (i : Int) ≤ env.v 0 →
    Runs env (loopD b cD) (stD env.f (env.v 0) i) 0 [fl1 env.f (env.v 0) (env.v 0 - 1), fh1 env.f (env.v 0) (env.v 0 - 1)]
  | q, i, hq, hi => by
      have hV' := allV_nat hV
      have hn : 0 < (env.v 0).toNat := by omega
      have hd : HeadOK env (loopD b cD) (stD env.f (env.v 0) i) := by
        rw [headOK_iff]
        cases i with
        | zero => exact ⟨⟨(by show (0 : Int) ≤ 0 ∧ (0 : Int) ≤ 16; omega), trivial⟩, (facDP (env := env.upd 2 _) h.good).2 ⟨h1, hV, hx⟩⟩
        | succ i => exact ⟨⟨(by show 0 ≤ ((i + 1 : Nat) : Int) ∧ ((i + 1 : Nat) : Int) ≤ 16; omega), trivial⟩, (facDP (env := env.upd 2 _) h.good).2 ⟨h1, hV, hx⟩⟩
      by_cases hlt : (i : Int) < env.v 0
      · have ev : (loopD b cD).ct.ev (env.upd (loopD b cD).base (stD env.f (env.v 0) i)) = some (0, stD env.f (env.v 0) (i + 1)) := by
          have ef := fb_all (f := env.f) hV'
          have nl := none_lies (f := env.f) hV' hn
          have key : ∀ a b' c, stD env.f (env.v 0) i = [(i : Int), a, b', c] → (c = 0 ∨ c = 1) → (c = 1 → fe env.f (env.v 0) i = 0 ∧ -1099511627776 ≤ a ∧ a ≤ b' ∧ b' ≤ 1099511627776 ∧ fl1 env.f (env.v 0) i ≤ a ∧ b' ≤ fh1 env.f (env.v 0) i) →
              cD.ev (env.upd 2 [(i : Int), a, b', c]) = some (0, stD env.f (env.v 0) (i + 1)) := by
            intro a b' c hs hc hT
            refine D_ev (env := env) i a b' c hlt (L := fl1 env.f (env.v 0) i) (H := fh1 env.f (env.v 0) i) (E := fe env.f (env.v 0) i) (h.h110 ..) (h.h111 ..) (h.h112 ..) (h.h123 ..) (h.h121 ..) (h.h122 ..) (h.h101 ..) ?_ hc ?_ hT ?_ ?_ ?_
            · unfold fe; split; exact .inr rfl; exact .inl rfl
            · exact mm_bit _ _
            · intro hb
              have hg : gd env.f (env.v 0).toNat (i : Int) (env.v 1) := hb
              have := in_fused hV' (by omega) hg
              obtain ⟨q1, q2⟩ := fe_one this.1
              exact ⟨fe_zero.2 this.1, by omega, by omega⟩
            · intro hz
              have hp := fe_zero.1 hz
              obtain ⟨q1, q2⟩ := fe_one hp
              obtain ⟨⟨j, hj, hg, e1⟩, _⟩ := ends hV' (by omega) hp
              have := in_fused hV' (by omega) hg
              omega
            · intro h0
              subst h0
              rw [ef]
              rcases nl with ⟨n1, n2, n3, n4⟩ | ⟨n1, n2⟩
              · have hz : fe env.f (env.v 0) ((0 : Nat) : Int) = 0 := fe_zero.2 n2
                obtain ⟨q1, q2⟩ := fe_one (f := env.f) (n := env.v 0) (m := ((0 : Nat) : Int)) n2
                exact ⟨⟨fun _ => n1, fun _ => hz⟩, fun _ => ⟨q1.trans n3, q2.trans n4⟩⟩
              · have hz : ¬ fe env.f (env.v 0) ((0 : Nat) : Int) = 0 := fun z => by
                  have := fe_zero.1 z
                  have n2' : pF env.f (env.v 0).toNat ((0 : Nat) : Int) (env.v 0).toNat = 0 := n2
                  omega
                exact ⟨⟨fun z => absurd z hz, fun z => by omega⟩, fun z => absurd z hz⟩
          cases i with
          | zero => exact key 0 0 0 rfl (.inl rfl) (fun z => by omega)
          | succ i =>
            refine key _ _ _ rfl (by split; exact .inr rfl; exact .inl rfl) fun z => ?_
            have hz : fe env.f (env.v 0) (i : Int) = 0 := by
              by_cases hz : fe env.f (env.v 0) (i : Int) = 0
              · exact hz
              · rw [if_neg hz] at z; omega
            have hp := fe_zero.1 hz
            obtain ⟨q1, q2⟩ := fe_one hp
            have mo := more (f := env.f) (n := (env.v 0).toNat) (m := (i : Int)) hV' (by omega) hp
            obtain ⟨q3, q4⟩ := fe_one (f := env.f) (n := env.v 0) (m := ((i + 1 : Nat) : Int)) mo.1
            have b1 := pLo_bd (m := (i : Int)) hV' (Nat.le_refl (env.v 0).toNat)
            have b2 := pHi_bd (m := (i : Int)) hV' (Nat.le_refl (env.v 0).toNat)
            have mo2 : pLo env.f (env.v 0).toNat ((i + 1 : Nat) : Int) (env.v 0).toNat ≤ pLo env.f (env.v 0).toNat (i : Int) (env.v 0).toNat ∧ pLo env.f (env.v 0).toNat (i : Int) (env.v 0).toNat ≤ pHi env.f (env.v 0).toNat (i : Int) (env.v 0).toNat ∧ pHi env.f (env.v 0).toNat (i : Int) (env.v 0).toNat ≤ pHi env.f (env.v 0).toNat ((i + 1 : Nat) : Int) (env.v 0).toNat := mo.2
            exact ⟨fe_zero.2 mo.1, by omega, by omega, by omega, by omega, by omega⟩
        cases q with
        | zero => omega
        | succ q => exact .again hd ev (D_runs h b h1 hV hx q (i + 1) (by omega) (by omega))
      · cases i with
        | zero => omega
        | succ i =>
          have e1 : env.v 0 - 1 = (i : Int) := by omega
          have ev : (loopD b cD).ct.ev (env.upd (loopD b cD).base (stD env.f (env.v 0) (i + 1))) = some (1, [fl1 env.f (env.v 0) (i : Int), fh1 env.f (env.v 0) (i : Int)]) := by
            show cD.ev (env.upd 2 [((i + 1 : Nat) : Int), fl1 env.f (env.v 0) (i : Int), fh1 env.f (env.v 0) (i : Int), if fe env.f (env.v 0) (i : Int) = 0 then 1 else 0]) = _
            unfold cD
            rw [ct_ite, if_neg]
            · rfl
            · simp only [den_cmpB, lssT, den_var, ups2 _ (show 0 < 2 by decide)]
              exact hlt
          rw [e1]
          exact .exit hd ev
theorem D_ok {env : Env} (h : Good2 env.f) (b : Nat) : LoopOK env (loopD b cD) := by
  intro l hl hh hp
  obtain ⟨i, x, y, z, rfl⟩ := len4 hl
  rw [headOK_iff] at hh
  have hf : factsP (env.upd 2 [i, x, y, z]) (nB ++ [okA] ++ xB 1) := hh.2
  rw [facDP (env := env.upd 2 [i, x, y, z]) h.good] at hf
  obtain ⟨h1, hV, hx⟩ := hf
  have p1 := hp (z0 2) (by simp [loopD])
  have p2 := hp (z0 3) (by simp [loopD])
  have p3 := hp (z0 4) (by simp [loopD])
  have p4 := hp (z0 5) (by simp [loopD])
  rw [show (loopD b cD).base = 2 from rfl] at p1 p2 p3 p4
  simp only [z0, den_cmpB, eqlT, den_var, den_lit] at p1 p2 p3 p4
  have p1' : i = 0 := p1
  have p2' : x = 0 := p2
  have p3' : y = 0 := p3
  have p4' : z = 0 := p4
  subst p1' p2' p3' p4'
  have rr := D_runs h b h1 hV hx _ 0 (Nat.le_refl _) (by have : 1 ≤ env.v 0 := h1.1; omega)
  refine ⟨0, _, _, rr, rfl, h.h130 .., fun j hj => ?_, by simp [loopD], by simp [loopD]⟩
  have hj2 : j < 2 := hj
  rcases (by omega : j = 0 ∨ j = 1) with rfl | rfl
  · exact h.h131 ..
  · exact h.h132 ..
/-! ### contracts -/
def vtLi : VT := (.leaf (.agg [(.int .i64 (.app 32 [(.lit 0), (.lit 0), (.app 1000 []), (.var 0), (.var 2)])), (.int .i64 (.app 31 [(.lit 0), (.lit 0), (.app 1000 []), (.var 0), (.var 2)])), (.int .i64 (.lit 0))]))
def vtFu : VT := (.ite (.neg (.tst (.app 73 [(.lit 0), (.lit 1099511627776), (.lit (-1099511627776)), (.lit 0), (.var 0), (.var 1)]))) (.leaf (.agg [(.int .i64 (.lit 0)), (.int .i64 (.lit 0)), (.int .i64 (.lit 5))])) (.leaf (.agg [(.int .i64 (.app 71 [(.lit 0), (.lit 1099511627776), (.lit (-1099511627776)), (.lit 0), (.var 0), (.var 1)])), (.int .i64 (.app 72 [(.lit 0), (.lit 1099511627776), (.lit (-1099511627776)), (.lit 0), (.var 0), (.var 1)])), (.int .i64 (.lit 0))])))
def vtD : VT := (.ite (.cmp .lss (.var 0) (.lit 1)) (.leaf (.bool (.lit true))) (.ite (.cmp .gtr (.var 0) (.lit 16)) (.leaf (.bool (.lit true))) (.ite (.cmp .lss (.var 1) (.lit (-1099511627776))) (.leaf (.bool (.lit true))) (.ite (.cmp .gtr (.var 1) (.lit 1099511627776)) (.leaf (.bool (.lit true))) (.ite (.cmp .eql (.app 120 [(.lit 0), (.app 5000 [(.lit 0)]), (.app 5001 [(.lit 0)]), (.lit 1), (.var 0)]) (.lit 0)) (.need (.cmp .eql (.app 20 [(.lit 0), (.var 0)]) (.lit 0)) (.ite (.cmp .eql (.app 130 [(.lit 0), (.lit 0), (.lit 0), (.lit 0), (.var 0), (.var 1)]) (.lit 0)) (.leaf (.bool (.lit true))) (.leaf (.bool (.lit false))))) (.leaf (.bool (.lit true))))))))
theorem Li_run : (run (callT Try.prog XEc 100000 LiWC.f (rcArgs LiWC.sh) (rcCtx LiWC.sh LiWC.pre 0)) (rcSt LiWC.sh)).vtO LiWC.outs = vtLi := by kernel_rfl
theorem Fu_run : (run (callT Try.prog XEc 100000 FuWC.f (rcArgs FuWC.sh) (rcCtx FuWC.sh FuWC.pre 0)) (rcSt FuWC.sh)).vtO FuWC.outs = vtFu := by kernel_rfl
theorem Li_ok {fn : Fn} (h : Good2 fn) : LiWC.OK Try.prog fn := by
  refine WC.ok_runC (X := XEc) (n := 100000) mixF (XE_ok h.good) (by kernel_rfl) fun pv w hpv hfn hpre => ⟨by simp [LiWC], ?_, _, RC.ctx_ok (d := 0) hpv hpre, ?_⟩
  · intro p hm
    have h1 := (pre_of (env := envOf (pvNums pv) fn) h.good fun b hb => hpre b (by simp only [LiWC, List.mem_append] at hb ⊢; exact .inl hb)).1
    have hle := lst_le fn ((envOf (pvNums pv) fn).v 2) ((envOf (pvNums pv) fn).v 0).toNat
    simp only [LiWC, List.mem_cons, List.mem_nil_iff, or_false] at hm
    rcases hm with rfl | rfl
    · show 0 ≤ fn 101 [(envOf (pvNums pv) fn).v 0, (envOf (pvNums pv) fn).v 2] ∧ fn 101 [(envOf (pvNums pv) fn).v 0, (envOf (pvNums pv) fn).v 2] ≤ 16
      rw [h.h101]; omega
    · show 0 ≤ fn 102 [(envOf (pvNums pv) fn).v 0, (envOf (pvNums pv) fn).v 2] ∧ fn 102 [(envOf (pvNums pv) fn).v 0, (envOf (pvNums pv) fn).v 2] ≤ 0
      rw [h.h102]; decide
  · rw [Li_run]
    generalize he : envOf (pvNums pv) fn = env
    have hf : Good2 env.f := by rw [← he]; exact h
    have hfe : fn = env.f := by rw [← he]; rfl
    subst hfe
    intro j hj
    have hj3 : j < 3 := hj
    rcases (by omega : j = 0 ∨ j = 1 ∨ j = 2) with rfl | rfl | rfl
    · exact (hf.good.h32 ..).trans (hf.h100 ..).symm
    · exact (hf.good.h31 ..).trans (hf.h101 ..).symm
    · exact (hf.h102 ..).symm
theorem facF_of {env : Env} (h : Good env.f) (hp : ∀ b, b ∈ facF → b.den env = true) : (1 ≤ env.v 0 ∧ env.v 0 ≤ 16) ∧ (0 ≤ env.v 1 ∧ env.v 1 < env.v 0) ∧ allV env.f (env.v 0) := by
  refine (facFP h).1 ?_
  rw [factsP_iff]
  exact hp
structure Q3 (env : Env) (u : SV) : Prop where
  at3 : ∀ j, j < 3 → (u.nums.getD j (.lit 0)).den env = env.f (110 + j) (selV [0, 1] env)
theorem holds_imp {env : Env} {Q R : SV → Prop} (h : ∀ v, Q v → R v) : ∀ {t : VT}, t.holds env Q → t.holds env R
  | .leaf v, g => h v g
  | .ite c t e, g => ⟨fun hc => holds_imp h (g.1 hc), fun hc => holds_imp h (g.2 hc)⟩
  | .need c t, g => ⟨g.1, holds_imp h g.2⟩
  | .fail, g => g
theorem Fu_core {env : Env} (h : Good2 env.f) : vtFu.holds env (Q3 env) := by
  have hb := pF_is env.f (env.v 0).toNat (env.v 1) (env.v 0).toNat
  have e0 := h.h110 (env.v 0) (env.v 1)
  have e1 := h.h111 (env.v 0) (env.v 1)
  have e2 := h.h112 (env.v 0) (env.v 1)
  have mk : ∀ a b c : E, a.den env = env.f 110 [env.v 0, env.v 1] → b.den env = env.f 111 [env.v 0, env.v 1] → c.den env = env.f 112 [env.v 0, env.v 1] → Q3 env (.agg [.int .i64 a, .int .i64 b, .int .i64 c]) := fun a b c ha hb hc => ⟨fun j hj => by
    rcases (by omega : j = 0 ∨ j = 1 ∨ j = 2) with rfl | rfl | rfl
    · exact ha
    · exact hb
    · exact hc⟩
  simp only [vtFu, VT.holds, den_lit, den_var, den_ite, den_cmp, den_cmpB, den_tst, den_tstF, den_negT, den_negF, den_andT, den_andF, lssT, leqT, gtrT, geqT, eqlT, neqT, lssF, leqF, gtrF, geqF, eqlF, neqF, den_app, den_nilL, den_consL, den_add, den_sub, den_mul, den_tdiv, den_tmod, den_mx, den_mn, den_blit, den_bin, binI, h.good.h73]
  refine ⟨fun hz => ?_, fun hz => ?_⟩
  · rw [if_pos hz] at e0 e1 e2
    exact mk _ _ _ e0.symm e1.symm e2.symm
  · rw [if_neg hz] at e0 e1 e2
    exact mk _ _ _ ((h.good.h71 ..).trans e0.symm) ((h.good.h72 ..).trans e1.symm) e2.symm
theorem Fu_ok {fn : Fn} (h : Good2 fn) : FuWC.OK Try.prog fn := by
  refine WC.ok_runC (X := XEc) (n := 100000) mixF (XE_ok h.good) (by kernel_rfl) fun pv w hpv hfn hpre => ⟨by simp [FuWC], ?_, _, RC.ctx_ok (d := 0) hpv hpre, ?_⟩
  · intro p hm
    obtain ⟨h1, h2, hV⟩ := facF_of (env := envOf (pvNums pv) fn) h.good hpre
    have b1 := pLo_bd (m := (envOf (pvNums pv) fn).v 1) (allV_nat hV) (Nat.le_refl ((envOf (pvNums pv) fn).v 0).toNat)
    have b2 := pHi_bd (m := (envOf (pvNums pv) fn).v 1) (allV_nat hV) (Nat.le_refl ((envOf (pvNums pv) fn).v 0).toNat)
    rw [env_f] at b1 b2
    simp only [FuWC, List.mem_cons, List.mem_nil_iff, or_false] at hm
    rcases hm with rfl | rfl | rfl
    · show -1099511627776 ≤ fn 110 [(envOf (pvNums pv) fn).v 0, (envOf (pvNums pv) fn).v 1] ∧ fn 110 [(envOf (pvNums pv) fn).v 0, (envOf (pvNums pv) fn).v 1] ≤ 1099511627776
      rw [h.h110]; split
      · decide
      · exact b1
    · show -1099511627776 ≤ fn 111 [(envOf (pvNums pv) fn).v 0, (envOf (pvNums pv) fn).v 1] ∧ fn 111 [(envOf (pvNums pv) fn).v 0, (envOf (pvNums pv) fn).v 1] ≤ 1099511627776
      rw [h.h111]; split
      · decide
      · exact b2
    · show 0 ≤ fn 112 [(envOf (pvNums pv) fn).v 0, (envOf (pvNums pv) fn).v 1] ∧ fn 112 [(envOf (pvNums pv) fn).v 0, (envOf (pvNums pv) fn).v 1] ≤ 5
      rw [h.h112]; split <;> decide
  · rw [Fu_run]
    exact holds_imp (fun v hv => hv.at3) (Fu_core (env := envOf (pvNums pv) fn) h)
def XDc : Par := XD cM cD
theorem XD_ok {fn : Fn} (h : Good2 fn) : ParOK Try.prog fn XDc :=
  FC.parOK (wk_ok h.good) rfl (WC.parOK (Li_ok h) rfl (WC.parOK (Fu_ok h) rfl ⟨fun env _ => noBook_ok _ _, (by
    intro env he f i g hg tm s L hL
    have hf : Good2 env.f := by rw [he]; exact h
    simp only [loopsD] at hg
    split at hg
    · cases hg
      simp only [Option.map_eq_some_iff] at hL
      obtain ⟨b, _, rfl⟩ := hL
      exact M_ok hf b
    split at hg
    · cases hg
      simp only [Option.map_eq_some_iff] at hL
      obtain ⟨b, _, rfl⟩ := hL
      exact D_ok hf b
    · cases hg), h.good.rows, fun env _ => noGen_ok _ _⟩))
theorem d_core {env : Env} (h : Good2 env.f) : vtD.holds env (yes env) := by
  have yl : ∀ (x : Bool), yes env (.bool (.lit x)) = (x = true) := fun _ => rfl
  have h20 : ∀ i n, env.f 20 [i, n] = 0 ↔ allV env.f n := fun i n => by
    rw [h.good.h20]; split <;> simp_all
  have h120 : ∀ i a b c n, env.f 120 [i, a, b, c, n] = 0 ↔ allV env.f n := fun i a b c n => by
    rw [h.h120]; split <;> simp_all
  simp only [vtD, VT.holds, den_lit, den_var, den_ite, den_cmp, den_cmpB, den_tst, den_tstF, den_negT, den_negF, den_andT, den_andF, lssT, leqT, gtrT, geqT, eqlT, neqT, lssF, leqF, gtrF, geqF, eqlF, neqF, den_app, den_nilL, den_consL, den_add, den_sub, den_mul, den_tdiv, den_tmod, den_mx, den_mn, den_blit, den_bin, binI, yl, h20, h120, h.h130]
  exact ⟨fun _ => trivial, fun _ => ⟨fun _ => trivial, fun _ => ⟨fun _ => trivial, fun _ => ⟨fun _ => trivial, fun _ => ⟨fun hv => ⟨hv, fun _ => trivial, fun hz => absurd rfl hz⟩, fun _ => trivial⟩⟩⟩⟩⟩
end Go.Proofs.Ytkdmnjpkimnmbaa
