/- The loops over the currents of a fuse: all are in their range; the heat. -/
import Derived.Test.YtgklokcknifedaaFa
namespace Go.Proofs.Ytgklokcknifedaa
open Go Go.SX Go.RowKit
set_option linter.unusedVariables false
set_option linter.unusedSimpArgs false
set_option maxRecDepth 100000
/-- the currents with a code's number -/
def xOf (f : Nat → List Int → Int) (R mo : Int) : Nat → Nat → Int
  | 22 => aF f
  | 23 => bF f mo
  | _ => cF f R
def isK (k : Nat) : Prop := k = 22 ∨ k = 23 ∨ k = 24
theorem nil_den {env : Env} (h : Good env.f) : nilE.den env = enc [] := by
  show env.f 1000 [] = _
  rw [h.rows 1000 _ (by decide) (by decide), rowOp_lit]
theorem cE_den {env : Env} (h : Good env.f) {k : Nat} (hk : isK k) : (cE k).den env = enc (xs (xOf env.f (env.v 0) (env.v 3) k) (num (env.v 2))) := by
  show env.f k [0, nilE.den env, nilE.den env, nilE.den env, env.v 0, env.v 1, env.v 2, env.v 3] = _
  rcases hk with rfl | rfl | rfl
  · exact h.h22 ..
  · exact h.h23 ..
  · exact h.h24 ..
theorem ln_den {env : Env} (h : Good env.f) : lnE.den env = (num (env.v 2) : Int) := by
  show env.f 21 [0, nilE.den env, nilE.den env, nilE.den env, env.v 0, env.v 1, env.v 2, env.v 3] = _
  exact h.h21 ..
theorem ups {env : Env} (l : List Int) {j : Nat} (hj : j < 4) : (env.upd 4 l).v j = env.v j := if_pos hj
theorem cE_upd {env : Env} (h : Good env.f) {k : Nat} (hk : isK k) (l : List Int) : (cE k).den (env.upd 4 l) = enc (xs (xOf env.f (env.v 0) (env.v 3) k) (num (env.v 2))) := by
  rw [cE_den (env := env.upd 4 l) h hk, ups l (by decide), ups l (by decide), ups l (by decide)]
  rfl
theorem ln_upd {env : Env} (h : Good env.f) (l : List Int) : lnE.den (env.upd 4 l) = (num (env.v 2) : Int) := by
  rw [ln_den (env := env.upd 4 l) h, ups l (by decide)]
theorem num_bd (ln : Int) : num ln ≤ 100 := by unfold num; omega
theorem betP {env : Env} {e : E} {lo hi : Int} : factsP env (bet e lo hi) ↔ lo ≤ e.den env ∧ e.den env ≤ hi := by
  simp only [bet, factsP, den_lit, den_var, den_ite, den_cmp, den_cmpB, den_tst, den_tstF, den_negT, den_negF, den_andT, den_andF, lssT, leqT, gtrT, geqT, eqlT, neqT, lssF, leqF, gtrF, geqF, eqlF, neqF, den_app, den_nilL, den_consL, den_add, den_sub, den_mul, den_tdiv, den_tmod, den_mx, den_mn, den_blit, den_bin, binI, and_true]
theorem facts_app {env : Env} : ∀ {a b : List BE}, factsP env (a ++ b) ↔ factsP env a ∧ factsP env b
  | [], b => by simp [factsP]
  | x :: a, b => by simp only [List.cons_append, factsP, facts_app, and_assoc]
theorem g_den {env : Env} (h : Good env.f) {k : Nat} (hk : isK k) {i : Nat} (hi : i < num (env.v 2)) (l : List Int) : (gE (cE k)).den (env.upd 4 ((i : Int) :: l)) = xOf env.f (env.v 0) (env.v 3) k i := by
  show env.f 1200 [(cE k).den (env.upd 4 ((i : Int) :: l)), (i : Int)] = _
  rw [cE_upd h hk, h.rows 1200 _ (by decide) (by decide), show (1200 : Nat) = 1100 + 100 * 1 + 0 from rfl, rowOp_get (by decide) (by decide)]
  unfold rowGet
  rw [Int.toNat_natCast, Nat.one_mul, Nat.add_zero]
  exact gt_xs hi
def LA (k : Nat) : LC := loopA (cE k) lnE (ctA (cE k) lnE)
def LH (k : Nat) : LC := loopH (cE k) lnE (ctH (cE k) lnE)
theorem headA {env : Env} (h : Good env.f) {k : Nat} {i : Nat} (hi : i ≤ num (env.v 2)) : HeadOK env (LA k) [(i : Int)] := by
  have := num_bd (env.v 2)
  rw [headOK_iff]
  refine ⟨⟨?_, trivial⟩, ?_⟩
  · show 0 ≤ (i : Int) ∧ (i : Int) ≤ 100
    omega
  · show factsP (env.upd 4 [(i : Int)]) (bet lnE 0 100)
    rw [betP, ln_upd h]
    omega
theorem A_runs {env : Env} (h : Good env.f) {k : Nat} (hk : isK k) : ∀ (q i : Nat), num (env.v 2) - i ≤ q → i ≤ num (env.v 2) →
    ((∀ j, i ≤ j → j < num (env.v 2) → -1048576 ≤ xOf env.f (env.v 0) (env.v 3) k j ∧ xOf env.f (env.v 0) (env.v 3) k j ≤ 1048576) → Runs env (LA k) [(i : Int)] 0 []) ∧
    (¬ (∀ j, i ≤ j → j < num (env.v 2) → -1048576 ≤ xOf env.f (env.v 0) (env.v 3) k j ∧ xOf env.f (env.v 0) (env.v 3) k j ≤ 1048576) → Runs env (LA k) [(i : Int)] 1 [])
  | q, i, hq, hi => by
      have hh := headA h (k := k) hi
      by_cases hlt : i < num (env.v 2)
      · have ev : (LA k).ct.ev (env.upd (LA k).base [(i : Int)]) = if -1048576 ≤ xOf env.f (env.v 0) (env.v 3) k i ∧ xOf env.f (env.v 0) (env.v 3) k i ≤ 1048576 then some (0, [((i + 1 : Nat) : Int)]) else some (2, []) := by
          show (ctA (cE k) lnE).ev (env.upd 4 [(i : Int)]) = _
          simp only [ctA, ct_ite, ct_again, ct_exit, den_lit, den_var, den_ite, den_cmp, den_cmpB, den_tst, den_tstF, den_negT, den_negF, den_andT, den_andF, lssT, leqT, gtrT, geqT, eqlT, neqT, lssF, leqF, gtrF, geqF, eqlF, neqF, den_app, den_nilL, den_consL, den_add, den_sub, den_mul, den_tdiv, den_tmod, den_mx, den_mn, den_blit, den_bin, binI, ln_upd h, g_den h hk hlt, show (env.upd 4 [(i : Int)]).v 4 = (i : Int) from rfl]
          rw [if_pos (by omega)]
          by_cases c1 : xOf env.f (env.v 0) (env.v 3) k i < -1048576
          · rw [if_pos c1, if_neg (by omega)]
          · rw [if_neg c1]
            by_cases c2 : xOf env.f (env.v 0) (env.v 3) k i > 1048576
            · rw [if_pos c2, if_neg (by omega)]
            · rw [if_neg c2, if_pos (by omega)]; rfl
        by_cases hx : -1048576 ≤ xOf env.f (env.v 0) (env.v 3) k i ∧ xOf env.f (env.v 0) (env.v 3) k i ≤ 1048576
        · rw [if_pos hx] at ev
          cases q with
          | zero => omega
          | succ q =>
            obtain ⟨r1, r2⟩ := A_runs h hk q (i + 1) (by omega) (by omega)
            refine ⟨fun hall => .again hh ev (r1 fun j h1 h2 => hall j (by omega) h2), fun hall => .again hh ev (r2 fun h3 => hall fun j h1 h2 => ?_)⟩
            by_cases hj : j = i
            · subst hj; exact hx
            · exact h3 j (by omega) h2
        · rw [if_neg hx] at ev
          exact ⟨fun hall => absurd (hall i (Nat.le_refl _) hlt) hx, fun _ => .exit hh ev⟩
      · have ev : (LA k).ct.ev (env.upd (LA k).base [(i : Int)]) = some (1, []) := by
          show (ctA (cE k) lnE).ev (env.upd 4 [(i : Int)]) = _
          simp only [ctA, ct_ite, ct_again, ct_exit, den_lit, den_var, den_ite, den_cmp, den_cmpB, den_tst, den_tstF, den_negT, den_negF, den_andT, den_andF, lssT, leqT, gtrT, geqT, eqlT, neqT, lssF, leqF, gtrF, geqF, eqlF, neqF, den_app, den_nilL, den_consL, den_add, den_sub, den_mul, den_tdiv, den_tmod, den_mx, den_mn, den_blit, den_bin, binI, ln_upd h, show (env.upd 4 [(i : Int)]).v 4 = (i : Int) from rfl]
          rw [if_neg (by omega)]
        exact ⟨fun _ => .exit hh ev, fun hall => absurd (fun j h1 h2 => by omega) hall⟩
theorem fits_iff (x : Nat → Int) (n : Nat) : Fits (enc (xs x n)) n ↔ ∀ j, j < n → -1048576 ≤ x j ∧ x j ≤ 1048576 := by
  unfold Fits
  constructor
  · intro h j hj; have := h j hj; rwa [gt_xs hj] at this
  · intro h j hj; rw [gt_xs hj]; exact h j hj
open Classical in
theorem A_ok {env : Env} (h : Good env.f) {k : Nat} (hk : isK k) : LoopOK env (LA k) := by
  intro l hl hh hp
  obtain ⟨i, rfl⟩ := len1 hl
  have p1 := hp (.cmp .eql (.var 4) (.lit 0)) (by simp [LA, loopA])
  rw [show (LA k).base = 4 from rfl] at p1
  simp only [den_cmpB, eqlT, den_var, den_lit] at p1
  have p1' : i = 0 := p1
  subst p1'
  obtain ⟨r1, r2⟩ := A_runs h hk _ 0 (Nat.le_refl _) (Nat.zero_le _)
  have eK : env.f (LA k).K ([0] ++ denL env (LA k).ex) = if Fits (enc (xs (xOf env.f (env.v 0) (env.v 3) k) (num (env.v 2)))) (num (env.v 2)) then 0 else 1 := by
    show env.f 30 [0, (cE k).den env, lnE.den env] = _
    rw [cE_den h hk, ln_den h, h.h30, Int.toNat_natCast]
  by_cases hf : Fits (enc (xs (xOf env.f (env.v 0) (env.v 3) k) (num (env.v 2)))) (num (env.v 2))
  · rw [if_pos hf] at eK
    exact ⟨0, [], _, r1 fun j _ h2 => (fits_iff _ _).1 hf j h2, rfl, eK, fun j hj => absurd hj (Nat.not_lt_zero _), by simp [LA, loopA], by simp [LA, loopA]⟩
  · rw [if_neg hf] at eK
    exact ⟨1, [], _, r2 fun hall => hf ((fits_iff _ _).2 fun j hj => hall j (Nat.zero_le _) hj), rfl, eK, fun j hj => absurd hj (Nat.not_lt_zero _), by simp [LA, loopA], by simp [LA, loopA]⟩
/-! ### the heat -/
theorem headH {env : Env} (h : Good env.f) {k : Nat} (hk : isK k) {i z : Int} : HeadOK env (LH k) [i, z] ↔ (0 ≤ i ∧ i ≤ 100) ∧ (0 ≤ z ∧ z ≤ 4294967296) ∧ (0 ≤ env.v 0 ∧ env.v 0 ≤ 65535) ∧ (0 ≤ env.v 1 ∧ env.v 1 ≤ 4294967295) ∧ Fits (enc (xs (xOf env.f (env.v 0) (env.v 3) k) (num (env.v 2)))) (num (env.v 2)) := by
  have nb := num_bd (env.v 2)
  rw [headOK_iff]
  show rngsP (env.upd 4 [i, z]) 4 [(0, 100), (0, 4294967296)] ∧ factsP (env.upd 4 [i, z]) (bet lnE 0 100 ++ bet (.var 0) 0 65535 ++ bet (.var 1) 0 4294967295 ++ ([.cmp .eql (.app 30 [.lit 0, cE k, lnE]) (.lit 0)] : List BE)) ↔ _
  rw [facts_app, facts_app, facts_app, betP, betP, betP, ln_upd h]
  have e30 : factsP (env.upd 4 [i, z]) ([.cmp .eql (.app 30 [.lit 0, cE k, lnE]) (.lit 0)] : List BE) ↔ Fits (enc (xs (xOf env.f (env.v 0) (env.v 3) k) (num (env.v 2)))) (num (env.v 2)) := by
    simp only [factsP, den_lit, den_var, den_ite, den_cmp, den_cmpB, den_tst, den_tstF, den_negT, den_negF, den_andT, den_andF, lssT, leqT, gtrT, geqT, eqlT, neqT, lssF, leqF, gtrF, geqF, eqlF, neqF, den_app, den_nilL, den_consL, den_add, den_sub, den_mul, den_tdiv, den_tmod, den_mx, den_mn, den_blit, den_bin, binI, cE_upd h hk, ln_upd h, upd_f, h.h30, Int.toNat_natCast, and_true]
    by_cases hf : Fits (enc (xs (xOf env.f (env.v 0) (env.v 3) k) (num (env.v 2)))) (num (env.v 2))
    · simp [hf]
    · simp [hf]
  rw [e30]
  have q0 : (E.var 0).den (env.upd 4 [i, z]) = env.v 0 := rfl
  have q1 : (E.var 1).den (env.upd 4 [i, z]) = env.v 1 := rfl
  have q4 : (env.upd 4 [i, z]).v 4 = i := rfl
  have q5 : (env.upd 4 [i, z]).v (4 + 1) = z := rfl
  simp only [rngsP, q0, q1, q4, q5, and_true]
  constructor
  · rintro ⟨⟨a, b⟩, ⟨⟨c, d⟩, e⟩, f⟩; exact ⟨a, b, d, e, f⟩
  · rintro ⟨a, b, d, e, f⟩; exact ⟨⟨a, b⟩, ⟨⟨by omega, d⟩, e⟩, f⟩
theorem H_runs {env : Env} (h : Good env.f) {k : Nat} (hk : isK k) (hR : 0 ≤ env.v 0 ∧ env.v 0 ≤ 65535) (hM : 0 ≤ env.v 1 ∧ env.v 1 ≤ 4294967295) (hF : Fits (enc (xs (xOf env.f (env.v 0) (env.v 3) k) (num (env.v 2)))) (num (env.v 2))) : ∀ (q i : Nat), num (env.v 2) - i ≤ q → i ≤ num (env.v 2) →
    heat (xOf env.f (env.v 0) (env.v 3) k) (env.v 0) i ≤ 4294967296 → (∀ j, j < i → heat (xOf env.f (env.v 0) (env.v 3) k) (env.v 0) (j + 1) < 1 + env.v 1) →
    (fM (xOf env.f (env.v 0) (env.v 3) k) (env.v 0) (1 + env.v 1) (num (env.v 2)) = none → Runs env (LH k) [(i : Int), heat (xOf env.f (env.v 0) (env.v 3) k) (env.v 0) i] 0 []) ∧
    (∀ t, fM (xOf env.f (env.v 0) (env.v 3) k) (env.v 0) (1 + env.v 1) (num (env.v 2)) = some t → Runs env (LH k) [(i : Int), heat (xOf env.f (env.v 0) (env.v 3) k) (env.v 0) i] 1 [(t : Int)])
  | q, i, hq, hi, h0, hb => by
      have nb := num_bd (env.v 2)
      have nn := heat_nn (xOf env.f (env.v 0) (env.v 3) k) (env.v 0)
      have hh : HeadOK env (LH k) [(i : Int), heat (xOf env.f (env.v 0) (env.v 3) k) (env.v 0) i] := (headH h hk).2 ⟨by omega, ⟨nn i, h0⟩, hR, hM, hF⟩
      by_cases hlt : i < num (env.v 2)
      · have hx := (fits_iff _ _).1 hF i hlt
        have ev : (LH k).ct.ev (env.upd (LH k).base [(i : Int), heat (xOf env.f (env.v 0) (env.v 3) k) (env.v 0) i]) =
            if 1 + env.v 1 ≤ heat (xOf env.f (env.v 0) (env.v 3) k) (env.v 0) (i + 1) then some (2, [(i : Int)]) else some (0, [((i + 1 : Nat) : Int), heat (xOf env.f (env.v 0) (env.v 3) k) (env.v 0) (i + 1)]) := by
          show (ctH (cE k) lnE).ev (env.upd 4 [(i : Int), heat (xOf env.f (env.v 0) (env.v 3) k) (env.v 0) i]) = _
          simp only [ctH, hE, ct_ite, ct_again, ct_exit, den_lit, den_var, den_ite, den_cmp, den_cmpB, den_tst, den_tstF, den_negT, den_negF, den_andT, den_andF, lssT, leqT, gtrT, geqT, eqlT, neqT, lssF, leqF, gtrF, geqF, eqlF, neqF, den_app, den_nilL, den_consL, den_add, den_sub, den_mul, den_tdiv, den_tmod, den_mx, den_mn, den_blit, den_bin, binI, ln_upd h, g_den h hk hlt, show (env.upd 4 [(i : Int), heat (xOf env.f (env.v 0) (env.v 3) k) (env.v 0) i]).v 4 = (i : Int) from rfl, show (env.upd 4 [(i : Int), heat (xOf env.f (env.v 0) (env.v 3) k) (env.v 0) i]).v 5 = heat (xOf env.f (env.v 0) (env.v 3) k) (env.v 0) i from rfl,
            show (env.upd 4 [(i : Int), heat (xOf env.f (env.v 0) (env.v 3) k) (env.v 0) i]).v 0 = env.v 0 from rfl, show (env.upd 4 [(i : Int), heat (xOf env.f (env.v 0) (env.v 3) k) (env.v 0) i]).v 1 = env.v 1 from rfl]
          rw [if_pos (show (i : Int) < (num (env.v 2) : Int) by omega), heat]
          have nni := nn i
          generalize heat (xOf env.f (env.v 0) (env.v 3) k) (env.v 0) i = z at *
          generalize xOf env.f (env.v 0) (env.v 3) k i = x at *
          have sq : 0 ≤ x * x ∧ x * x ≤ 1099511627776 := by
            have e1 := Int.mul_nonneg (show 0 ≤ 1048576 - x by omega) (show 0 ≤ 1048576 + x by omega)
            have e2 : (1048576 - x) * (1048576 + x) = 1099511627776 - x * x := by
              rw [Int.sub_mul, Int.mul_add, Int.mul_add]; omega
            refine ⟨?_, by omega⟩
            rcases Int.le_total 0 x with hx0 | hx0
            · exact Int.mul_nonneg hx0 hx0
            · have := Int.mul_nonneg (show 0 ≤ -x by omega) (show 0 ≤ -x by omega)
              rwa [Int.neg_mul_neg] at this
          have rr : 0 ≤ env.v 0 * env.v 0 ∧ env.v 0 * env.v 0 ≤ 4294836225 := ⟨Int.mul_nonneg hR.1 hR.1, by have := Int.mul_le_mul hR.2 hR.2 hR.1 (by decide); omega⟩
          generalize x * x = xx at *
          generalize env.v 0 * env.v 0 = r2 at *
          rw [wrap_i64 (n := xx) (by omega) (by omega), wrap_i64 (n := z + xx) (by omega) (by omega), wrap_i64 (by omega) (by omega)]
          by_cases hm : 1 + env.v 1 ≤ max 0 (z + xx - r2)
          · rw [if_pos hm, if_pos hm]
          · rw [if_neg hm, if_neg (show ¬ max 0 (z + xx - r2) ≥ 1 + env.v 1 from hm)]; rfl
        by_cases hm : 1 + env.v 1 ≤ heat (xOf env.f (env.v 0) (env.v 3) k) (env.v 0) (i + 1)
        · rw [if_pos hm] at ev
          refine ⟨fun e => ?_, fun t e => ?_⟩
          · have := fM_none e i hlt; omega
          · obtain ⟨a, b, c⟩ := fM_some e
            have : t = i := by
              by_cases h1 : t < i
              · have := hb t h1; omega
              · by_cases h2 : i < t
                · have := c i h2; omega
                · omega
            subst this
            exact .exit hh ev
        · rw [if_neg hm] at ev
          cases q with
          | zero => omega
          | succ q =>
            obtain ⟨r1, r2⟩ := H_runs h hk hR hM hF q (i + 1) (by omega) (by omega) (by omega) (fun j hj => by
              by_cases hji : j = i
              · subst hji; omega
              · exact hb j (by omega))
            exact ⟨fun e => .again hh ev (r1 e), fun t e => .again hh ev (r2 t e)⟩
      · have ev : (LH k).ct.ev (env.upd (LH k).base [(i : Int), heat (xOf env.f (env.v 0) (env.v 3) k) (env.v 0) i]) = some (1, []) := by
          show (ctH (cE k) lnE).ev (env.upd 4 [(i : Int), heat (xOf env.f (env.v 0) (env.v 3) k) (env.v 0) i]) = _
          simp only [ctH, ct_ite, ct_again, ct_exit, den_lit, den_var, den_ite, den_cmp, den_cmpB, den_tst, den_tstF, den_negT, den_negF, den_andT, den_andF, lssT, leqT, gtrT, geqT, eqlT, neqT, lssF, leqF, gtrF, geqF, eqlF, neqF, den_app, den_nilL, den_consL, den_add, den_sub, den_mul, den_tdiv, den_tmod, den_mx, den_mn, den_blit, den_bin, binI, ln_upd h, show (env.upd 4 [(i : Int), heat (xOf env.f (env.v 0) (env.v 3) k) (env.v 0) i]).v 4 = (i : Int) from rfl]
          rw [if_neg (by omega)]
        refine ⟨fun _ => .exit hh ev, fun t e => ?_⟩
        obtain ⟨a, b, c⟩ := fM_some e
        have := hb t (by omega)
        omega
theorem H_ok {env : Env} (h : Good env.f) {k : Nat} (hk : isK k) : LoopOK env (LH k) := by
  intro l hl hh hp
  obtain ⟨i, z, rfl⟩ := len2 hl
  obtain ⟨_, _, hR, hM, hF⟩ := (headH h hk).1 hh
  have p1 := hp (.cmp .eql (.var 4) (.lit 0)) (by simp [LH, loopH])
  have p2 := hp (.cmp .eql (.var 5) (.lit 0)) (by simp [LH, loopH])
  rw [show (LH k).base = 4 from rfl] at p1 p2
  simp only [den_cmpB, eqlT, den_var, den_lit] at p1 p2
  have p1' : i = 0 := p1
  have p2' : z = 0 := p2
  subst p1' p2'
  obtain ⟨r1, r2⟩ := H_runs h hk hR hM hF _ 0 (Nat.le_refl _) (Nat.zero_le _) (by simp only [heat]; decide) (fun j hj => by omega)
  have eM : fM (gt (enc (xs (xOf env.f (env.v 0) (env.v 3) k) (num (env.v 2))))) (env.v 0) (1 + env.v 1) (num (env.v 2)) = fM (xOf env.f (env.v 0) (env.v 3) k) (env.v 0) (1 + env.v 1) (num (env.v 2)) := fM_congr fun j hj => gt_xs hj
  have ex : ∀ K, env.f K ([0, 0] ++ denL env (LH k).ex) = env.f K [0, 0, enc (xs (xOf env.f (env.v 0) (env.v 3) k) (num (env.v 2))), (num (env.v 2) : Int), env.v 0, 1 + env.v 1] := fun K => by
    show env.f K [0, 0, (cE k).den env, lnE.den env, env.v 0, 1 + env.v 1] = _
    rw [cE_den h hk, ln_den h]
  cases e : fM (xOf env.f (env.v 0) (env.v 3) k) (env.v 0) (1 + env.v 1) (num (env.v 2)) with
  | none =>
    refine ⟨0, [], _, r1 e, rfl, ?_, fun j hj => absurd hj (Nat.not_lt_zero _), by simp [LH, loopH], by simp [LH, loopH]⟩
    show env.f 40 ([0, 0] ++ denL env (LH k).ex) = 0
    rw [ex, h.h40, Int.toNat_natCast, eM, e]
    rfl
  | some t =>
    refine ⟨1, [(t : Int)], _, r2 t e, rfl, ?_, fun j hj => ?_, by simp [LH, loopH], by simp [LH, loopH]⟩
    · show env.f 40 ([0, 0] ++ denL env (LH k).ex) = 1
      rw [ex, h.h40, Int.toNat_natCast, eM, e]
      rfl
    · obtain rfl : j = 0 := by
        have : j < 1 := hj
        omega
      show env.f 41 ([0, 0] ++ denL env (LH k).ex) = _
      rw [ex, h.h41, Int.toNat_natCast, eM, e]
      rfl
theorem pick_is {p : E × E} {k : Nat} (h : pick p = some k) : isK k := by
  unfold pick at h
  cases h1 : p.2.same lnE with
  | false => rw [h1] at h; cases h
  | true =>
    rw [h1, cond_true] at h
    cases h2 : p.1.same (cE 22) with
    | true => rw [h2] at h; cases h; exact .inl rfl
    | false =>
      rw [h2, cond_false] at h
      cases h3 : p.1.same (cE 23) with
      | true => rw [h3] at h; cases h; exact .inr (.inl rfl)
      | false =>
        rw [h3, cond_false] at h
        cases h4 : p.1.same (cE 24) with
        | true => rw [h4] at h; cases h; exact .inr (.inr rfl)
        | false => rw [h4] at h; cases h
theorem kn_ok {fn : Nat → List Int → Int} (h : Good fn) : knF.OK Try.prog fn := by
  refine FC.ok_eqv (X := noPar) (d := 1) (n := 100000) (t := .leaf (.bool (.lit true))) mixF (noPar_ok fn h.rows) rfl (by kernel_rfl) (by kernel_rfl) fun r hw _ => ⟨by simp [knF], by simp [knF], ?_⟩
  exact rfl
def XX : Par := XF (fun _ _ => ctF) ctA ctH
theorem XX_ok {fn : Nat → List Int → Int} (h : Good fn) : ParOK Try.prog fn XX := FC.parOK (kn_ok h) rfl
  ⟨fun env _ => noBook_ok _ _, (by
    intro env he f i g hg tm s L hL
    have hf : Good env.f := by rw [he]; exact h
    simp only [loopsF] at hg
    split at hg
    · cases hg; cases hL; exact F_ok hf
    · split at hg
      · cases hg
        simp only [Option.map_eq_some_iff, Option.bind_eq_some_iff] at hL
        obtain ⟨k, ⟨p, _, hp⟩, rfl⟩ := hL
        exact A_ok hf (pick_is hp)
      · split at hg
        · cases hg
          simp only [Option.map_eq_some_iff, Option.bind_eq_some_iff] at hL
          obtain ⟨k, ⟨p, _, hp⟩, rfl⟩ := hL
          exact H_ok hf (pick_is hp)
        · cases hg), h.rows, fun env _ => noGen_ok _ _⟩
end Go.Proofs.Ytgklokcknifedaa
