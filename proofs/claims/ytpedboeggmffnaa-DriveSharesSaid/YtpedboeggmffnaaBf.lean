/- What Shares returns, as mathematics: the sum that is wanted, if it is possible; no share above its greatest torque. -/
import Derived.Test.YtpedboeggmffnaaBb
namespace Go.Proofs.Ytpedboeggmffnaa
open Go Go.SX Go.RowKit
set_option linter.unusedVariables false
set_option linter.unusedSimpArgs false
set_option maxRecDepth 100000
def sumF (x : Nat → Int) : Nat → Int
  | 0 => 0
  | n + 1 => sumF x n + x n
theorem sumF_le {x y : Nat → Int} : ∀ {n : Nat}, (∀ i, i < n → x i ≤ y i) → sumF x n ≤ sumF y n
  | 0, _ => Int.le_refl _
  | n + 1, h => by
      have h1 := sumF_le (n := n) fun i hi => h i (by omega)
      have h2 := h n (by omega)
      simp only [sumF]; omega
theorem sumF_lt {x y : Nat → Int} : ∀ {n : Nat}, (∀ i, i < n → x i ≤ y i) → (∃ i, i < n ∧ x i < y i) → sumF x n < sumF y n
  | 0, _, h => by obtain ⟨i, hi, _⟩ := h; omega
  | n + 1, h, hs => by
      have h2 := h n (by omega)
      simp only [sumF]
      obtain ⟨i, hi, hlt⟩ := hs
      by_cases hin : i = n
      · subst hin
        have h1 := sumF_le (n := i) fun j hj => h j (by omega)
        omega
      · have h1 := sumF_lt (n := n) (fun j hj => h j (by omega)) ⟨i, by omega, hlt⟩
        omega
theorem sumF_eq {x y : Nat → Int} {n : Nat} (h : ∀ i, i < n → x i = y i) : sumF x n = sumF y n := by
  have a := sumF_le (n := n) fun i hi => Int.le_of_eq (h i hi)
  have b := sumF_le (n := n) fun i hi => Int.le_of_eq (h i hi).symm
  omega
theorem pour_sum (m : Nat → Int) (x : Int) : ∀ n, pour m x n = sumF (fun i => min x (m i)) n
  | 0 => rfl
  | n + 1 => by simp only [pour, sumF, pour_sum m x n]
/-- how what is left is handed out -/
theorem dist_at {env : Env} {n : Nat} {s m : Nat → Int} (hs : ∀ i, (shE n i).den env = s i) (hm : ∀ i, (el i).den env = m i) : ∀ (k : Nat) (left : E) (acc : List E), k ≤ n → acc.length = n - k → 0 ≤ left.den env →
    ∃ (es : List E) (x : Nat → Int) (d : Int), (dist n k left acc).at env = .agg [.int .i64 (.app 1000 es), .int .i64 (.lit n), .int .i64 (.lit 0)] ∧ es.length = n ∧ (∀ i, i < n - k → (es.getD i (.lit 0)).den env = (acc.getD i (.lit 0)).den env) ∧
      (∀ i, n - k ≤ i → i < n → (es.getD i (.lit 0)).den env = x i) ∧ (0 ≤ d ∧ d ≤ left.den env) ∧ (∀ i, n - k ≤ i → i < n → x i = s i ∨ (x i = s i + 1 ∧ s i < m i)) ∧
      (sumF (fun j => x (n - k + j)) k = sumF (fun j => s (n - k + j)) k + d) ∧ (d = left.den env ∨ ∀ i, n - k ≤ i → i < n → s i < m i → x i = s i + 1)
  | 0, left, acc, hk, ha, hl => ⟨acc, s, 0, rfl, by omega, fun i hi => rfl, fun i h1 h2 => by omega, ⟨Int.le_refl _, hl⟩, fun i h1 h2 => .inl rfl, by simp only [sumF]; rfl, .inr fun i h1 h2 => by omega⟩
  | k + 1, left, acc, hk, ha, hl => by
      have e0 : ∀ j, n - (k + 1) + (j + 1) = n - k + j := fun j => by omega
      have head : ∀ (f : Nat → Int), sumF (fun j => f (n - (k + 1) + j)) (k + 1) = f (n - (k + 1)) + sumF (fun j => f (n - k + j)) k := by
        intro f
        have : ∀ q, sumF (fun j => f (n - (k + 1) + j)) (q + 1) = f (n - (k + 1)) + sumF (fun j => f (n - k + j)) q := by
          intro q
          induction q with
          | zero => simp only [sumF, Nat.add_zero]; omega
          | succ q ih =>
            rw [sumF, ih, sumF]
            simp only [e0]
            omega
        exact this k
      simp only [dist, VT.at]
      cases c1 : (BE.cmp .lss (shE n (n - (k + 1))) (el (n - (k + 1)))).den env with
      | true =>
        have c1' : s (n - (k + 1)) < m (n - (k + 1)) := by simpa only [den_lit, den_var, den_ite, den_cmp, den_cmpB, den_tst, den_tstF, den_negT, den_negF, den_andT, den_andF, lssT, leqT, gtrT, geqT, eqlT, neqT, lssF, leqF, gtrF, geqF, eqlF, neqF, den_app, den_nilL, den_consL, den_add, den_sub, den_mul, den_tdiv, den_tmod, den_mx, den_mn, den_blit, den_bin, binI, hs, hm] using c1
        rw [cond_true]
        cases c2 : (BE.cmp .eql left (.lit 0)).den env with
        | true =>
          have c2' : left.den env = 0 := by simpa only [den_lit, den_var, den_ite, den_cmp, den_cmpB, den_tst, den_tstF, den_negT, den_negF, den_andT, den_andF, lssT, leqT, gtrT, geqT, eqlT, neqT, lssF, leqF, gtrF, geqF, eqlF, neqF, den_app, den_nilL, den_consL, den_add, den_sub, den_mul, den_tdiv, den_tmod, den_mx, den_mn, den_blit, den_bin, binI] using c2
          rw [cond_true]
          refine ⟨_, s, 0, rfl, by simp; omega, fun i hi => ?_, fun i h1 h2 => ?_, ⟨Int.le_refl _, hl⟩, fun i h1 h2 => .inl rfl, by omega, .inl c2'.symm⟩
          · rw [List.getD_eq_getElem?_getD, List.getElem?_append_left (by omega), ← List.getD_eq_getElem?_getD]
          · rw [List.getD_eq_getElem?_getD, List.getElem?_append_right (by omega), List.getElem?_map, List.getElem?_range (by omega)]
            simp only [Option.map_some, Option.getD_some, hs]
            congr 1
            omega
        | false =>
          have c2' : left.den env ≠ 0 := by simpa only [den_lit, den_var, den_ite, den_cmp, den_cmpB, den_tst, den_tstF, den_negT, den_negF, den_andT, den_andF, lssT, leqT, gtrT, geqT, eqlT, neqT, lssF, leqF, gtrF, geqF, eqlF, neqF, den_app, den_nilL, den_consL, den_add, den_sub, den_mul, den_tdiv, den_tmod, den_mx, den_mn, den_blit, den_bin, binI] using c2
          rw [cond_false]
          obtain ⟨es, x, d, g1, g2, g3, g4, g5, g6, g7, g8⟩ := dist_at hs hm k (.op .sub left (.lit 1)) (acc ++ [.op .add (shE n (n - (k + 1))) (.lit 1)]) (by omega) (by simp; omega) (by simp only [den_lit, den_var, den_ite, den_cmp, den_cmpB, den_tst, den_tstF, den_negT, den_negF, den_andT, den_andF, lssT, leqT, gtrT, geqT, eqlT, neqT, lssF, leqF, gtrF, geqF, eqlF, neqF, den_app, den_nilL, den_consL, den_add, den_sub, den_mul, den_tdiv, den_tmod, den_mx, den_mn, den_blit, den_bin, binI]; omega)
          have hd : (E.op .sub left (.lit 1)).den env = left.den env - 1 := by simp only [den_lit, den_var, den_ite, den_cmp, den_cmpB, den_tst, den_tstF, den_negT, den_negF, den_andT, den_andF, lssT, leqT, gtrT, geqT, eqlT, neqT, lssF, leqF, gtrF, geqF, eqlF, neqF, den_app, den_nilL, den_consL, den_add, den_sub, den_mul, den_tdiv, den_tmod, den_mx, den_mn, den_blit, den_bin, binI]
          rw [hd] at g5 g8
          have hx : ∀ i, n - k ≤ i → (fun i => if i = n - (k + 1) then s i + 1 else x i) i = x i := fun i hi => if_neg (by omega)
          refine ⟨es, fun i => if i = n - (k + 1) then s i + 1 else x i, d + 1, g1, g2, fun i hi => ?_, fun i h1 h2 => ?_, by omega, fun i h1 h2 => ?_, ?_, ?_⟩
          · rw [g3 i (by omega), List.getD_eq_getElem?_getD, List.getElem?_append_left (by omega), ← List.getD_eq_getElem?_getD]
          · by_cases hi : i = n - (k + 1)
            · subst hi
              rw [g3 _ (by omega), List.getD_eq_getElem?_getD, List.getElem?_append_right (by omega), ha]
              simp [den_lit, den_var, den_ite, den_cmp, den_cmpB, den_tst, den_tstF, den_negT, den_negF, den_andT, den_andF, lssT, leqT, gtrT, geqT, eqlT, neqT, lssF, leqF, gtrF, geqF, eqlF, neqF, den_app, den_nilL, den_consL, den_add, den_sub, den_mul, den_tdiv, den_tmod, den_mx, den_mn, den_blit, den_bin, binI, hs]
            · simp only [if_neg hi]
              exact g4 i (by omega) h2
          · by_cases hi : i = n - (k + 1)
            · subst hi; right; exact ⟨if_pos rfl, c1'⟩
            · simp only [if_neg hi]; exact g6 i (by omega) h2
          · rw [head s, head (fun i => if i = n - (k + 1) then s i + 1 else x i)]
            show (if n - (k + 1) = n - (k + 1) then s (n - (k + 1)) + 1 else x (n - (k + 1))) + sumF (fun j => if n - k + j = n - (k + 1) then s (n - k + j) + 1 else x (n - k + j)) k = _
            rw [if_pos rfl, sumF_eq (x := fun j => if n - k + j = n - (k + 1) then s (n - k + j) + 1 else x (n - k + j)) (y := fun j => x (n - k + j)) (fun j hj => if_neg (by omega)), g7]
            omega
          · rcases g8 with g8 | g8
            · left; omega
            · right
              intro i h1 h2 h3
              by_cases hi : i = n - (k + 1)
              · simp only [if_pos hi]
              · simp only [if_neg hi]; exact g8 i (by omega) h2 h3
      | false =>
        have c1' : m (n - (k + 1)) ≤ s (n - (k + 1)) := by simpa only [den_lit, den_var, den_ite, den_cmp, den_cmpB, den_tst, den_tstF, den_negT, den_negF, den_andT, den_andF, lssT, leqT, gtrT, geqT, eqlT, neqT, lssF, leqF, gtrF, geqF, eqlF, neqF, den_app, den_nilL, den_consL, den_add, den_sub, den_mul, den_tdiv, den_tmod, den_mx, den_mn, den_blit, den_bin, binI, hs, hm] using c1
        rw [cond_false]
        obtain ⟨es, x, d, g1, g2, g3, g4, g5, g6, g7, g8⟩ := dist_at hs hm k left (acc ++ [shE n (n - (k + 1))]) (by omega) (by simp; omega) hl
        refine ⟨es, fun i => if i = n - (k + 1) then s i else x i, d, g1, g2, fun i hi => ?_, fun i h1 h2 => ?_, g5, fun i h1 h2 => ?_, ?_, ?_⟩
        · rw [g3 i (by omega), List.getD_eq_getElem?_getD, List.getElem?_append_left (by omega), ← List.getD_eq_getElem?_getD]
        · by_cases hi : i = n - (k + 1)
          · subst hi
            rw [g3 _ (by omega), List.getD_eq_getElem?_getD, List.getElem?_append_right (by omega), ha]
            simp [hs]
          · simp only [if_neg hi]
            exact g4 i (by omega) h2
        · by_cases hi : i = n - (k + 1)
          · left; simp only [if_pos hi]
          · simp only [if_neg hi]; exact g6 i (by omega) h2
        · rw [head s, head (fun i => if i = n - (k + 1) then s i else x i)]
          show (if n - (k + 1) = n - (k + 1) then s (n - (k + 1)) else x (n - (k + 1))) + sumF (fun j => if n - k + j = n - (k + 1) then s (n - k + j) else x (n - k + j)) k = _
          rw [if_pos rfl, sumF_eq (x := fun j => if n - k + j = n - (k + 1) then s (n - k + j) else x (n - k + j)) (y := fun j => x (n - k + j)) (fun j hj => if_neg (by omega)), g7]
          omega
        · rcases g8 with g8 | g8
          · left; exact g8
          · right
            intro i h1 h2 h3
            by_cases hi : i = n - (k + 1)
            · subst hi; omega
            · simp only [if_neg hi]; exact g8 i (by omega) h2 h3
theorem inV_at {env : Env} {e : E} {t : VT} : (inV e t).at env = if 0 ≤ e.den env ∧ e.den env ≤ 68719476736 then t.at env else (errV 3).at env := by
  simp only [inV, VT.at]
  cases c1 : (BE.cmp .leq (.lit 0) e).den env with
  | true =>
    have c1' : 0 ≤ e.den env := by simpa only [den_lit, den_var, den_ite, den_cmp, den_cmpB, den_tst, den_tstF, den_negT, den_negF, den_andT, den_andF, lssT, leqT, gtrT, geqT, eqlT, neqT, lssF, leqF, gtrF, geqF, eqlF, neqF, den_app, den_nilL, den_consL, den_add, den_sub, den_mul, den_tdiv, den_tmod, den_mx, den_mn, den_blit, den_bin, binI] using c1
    rw [cond_true]
    cases c2 : (BE.neg (.cmp .leq e (.lit 68719476736))).den env with
    | true =>
      have c2' : 68719476736 < e.den env := by simpa only [den_lit, den_var, den_ite, den_cmp, den_cmpB, den_tst, den_tstF, den_negT, den_negF, den_andT, den_andF, lssT, leqT, gtrT, geqT, eqlT, neqT, lssF, leqF, gtrF, geqF, eqlF, neqF, den_app, den_nilL, den_consL, den_add, den_sub, den_mul, den_tdiv, den_tmod, den_mx, den_mn, den_blit, den_bin, binI, Int.not_le] using c2
      rw [cond_true, if_neg (by omega)]
    | false =>
      have c2' : e.den env ≤ 68719476736 := by
        rw [den_negF] at c2
        simpa only [den_lit, den_var, den_ite, den_cmp, den_cmpB, den_tst, den_tstF, den_negT, den_negF, den_andT, den_andF, lssT, leqT, gtrT, geqT, eqlT, neqT, lssF, leqF, gtrF, geqF, eqlF, neqF, den_app, den_nilL, den_consL, den_add, den_sub, den_mul, den_tdiv, den_tmod, den_mx, den_mn, den_blit, den_bin, binI] using c2
      rw [cond_false, if_pos ⟨c1', c2'⟩]
  | false =>
    have c1' : e.den env < 0 := by simpa only [den_lit, den_var, den_ite, den_cmp, den_cmpB, den_tst, den_tstF, den_negT, den_negF, den_andT, den_andF, lssT, leqT, gtrT, geqT, eqlT, neqT, lssF, leqF, gtrF, geqF, eqlF, neqF, den_app, den_nilL, den_consL, den_add, den_sub, den_mul, den_tdiv, den_tmod, den_mx, den_mn, den_blit, den_bin, binI, Int.not_le] using c1
    rw [cond_false, if_neg (by omega)]
theorem elsV_at {env : Env} {n : Nat} {t : VT} : ∀ k, k ≤ n → (elsV n t k).at env = t.at env ∧ (∀ i, n - k ≤ i → i < n → 0 ≤ mOf env.f i ∧ mOf env.f i ≤ 68719476736) ∨ (elsV n t k).at env = (errV 3).at env
  | 0, _ => .inl ⟨rfl, fun i h1 h2 => by omega⟩
  | k + 1, hk => by
      rw [elsV, inV_at]
      have ed : (el (n - (k + 1))).den env = mOf env.f (n - (k + 1)) := rfl
      rw [ed]
      by_cases h : 0 ≤ mOf env.f (n - (k + 1)) ∧ mOf env.f (n - (k + 1)) ≤ 68719476736
      · rw [if_pos h]
        rcases elsV_at (n := n) (t := t) k (by omega) with ⟨g1, g2⟩ | g
        · refine .inl ⟨g1, fun i h1 h2 => ?_⟩
          by_cases hi : i = n - (k + 1)
          · subst hi; exact h
          · exact g2 i (by omega) h2
        · exact .inr g
      · rw [if_neg h]; exact .inr rfl
/-- what shares are -/
structure IsShare (m : Nat → Int) (n : Nat) (t : Int) (x : Nat → Int) : Prop where
  m0 : ∀ i, i < n → 0 ≤ m i ∧ m i ≤ 68719476736
  t0 : 0 ≤ t ∧ t ≤ 68719476736
  x0 : ∀ i, i < n → 0 ≤ x i ∧ x i ≤ m i
  lv : ∃ L, ∀ i, i < n → min L (m i) ≤ x i ∧ x i ≤ L + 1
  sum : sumF x n = min t (sumF m n)
theorem is_share {m x : Nat → Int} {n : Nat} {t d : Int} (ht : 0 ≤ t ∧ t ≤ 68719476736) (hm : ∀ i, i < n → 0 ≤ m i ∧ m i ≤ 68719476736) (hd : 0 ≤ d ∧ d ≤ t - pour m (LV m n t) n)
    (h6 : ∀ i, i < n → x i = min (LV m n t) (m i) ∨ (x i = min (LV m n t) (m i) + 1 ∧ min (LV m n t) (m i) < m i)) (h7 : sumF x n = pour m (LV m n t) n + d)
    (h8 : d = t - pour m (LV m n t) n ∨ ∀ i, i < n → min (LV m n t) (m i) < m i → x i = min (LV m n t) (m i) + 1) : IsShare m n t x := by
  obtain ⟨l1, l2, l3⟩ := LV_is (m := m) (n := n) ht.1 fun i hi => (hm i hi).1
  have hx : ∀ i, i < n → 0 ≤ x i ∧ x i ≤ m i := fun i hi => by
    have := h6 i hi; have := hm i hi; omega
  refine ⟨hm, ht, hx, ⟨LV m n t, fun i hi => by have := h6 i hi; omega⟩, ?_⟩
  have hle := sumF_le (n := n) fun i hi => (hx i hi).2
  rcases h8 with h8 | h8
  · omega
  · by_cases hall : ∀ i, i < n → m i ≤ LV m n t
    · have : sumF x n = sumF m n := sumF_eq fun i hi => by
        have := h6 i hi; have := hall i hi; omega
      omega
    · exfalso
      obtain ⟨i, hi⟩ := Classical.not_forall.1 hall
      obtain ⟨hin, hi⟩ := Classical.not_imp.1 hi
      have hmi := hm i hin
      have h9 := l3 (LV m n t + 1) (by omega) (by omega)
      rw [pour_sum, sumF_eq (y := x) (fun j hj => by
        have a := h6 j hj
        have b := h8 j hj
        show min (LV m n t + 1) (m j) = x j
        omega)] at h9
      omega
theorem sh_val {fn : Nat → List Int → Int} (h : GoodL fn) {K n : Nat} (hT : TreeIs fn K 3 (shV n)) (t : Int) :
    fn (K + 2) [t] = 3 ∨ (fn (K + 2) [t] = 0 ∧ fn (K + 1) [t] = n ∧ ∃ x, IsShare (mOf fn) n t x ∧ ∀ i, i < n → fn 1200 [fn K [t], (i : Int)] = x i) := by
  rw [hT 2 [t] (by decide), hT 1 [t] (by decide), show fn K [t] = _ from hT 0 [t] (by decide)]
  unfold VT.fnJ
  have key : (shV n).at (envOf [t] fn) = (errV 3).at (envOf [t] fn) ∨ ((0 ≤ t ∧ t ≤ 68719476736) ∧ (∀ i, i < n → 0 ≤ mOf fn i ∧ mOf fn i ≤ 68719476736) ∧ (shV n).at (envOf [t] fn) = (dist n n (rsS n) []).at (envOf [t] fn)) := by
    rw [shV, inV_at]
    have et : (E.var 0).den (envOf [t] fn) = t := rfl
    rw [et]
    by_cases ht : 0 ≤ t ∧ t ≤ 68719476736
    · rw [if_pos ht]
      rcases elsV_at (env := envOf [t] fn) (n := n) (t := dist n n (rsS n) []) n (Nat.le_refl _) with ⟨g1, g2⟩ | g
      · exact .inr ⟨ht, fun i hi => g2 i (by omega) hi, g1⟩
      · exact .inl g
    · rw [if_neg ht]; exact .inl rfl
  rcases key with key | ⟨ht, hm, key⟩
  · left; rw [key]; rfl
  · right
    obtain ⟨l1, l2, l3⟩ := LV_is (m := mOf fn) (n := n) ht.1 fun i hi => (hm i hi).1
    have l4 := pour_nn (m := mOf fn) (n := n) l1.1 fun i hi => (hm i hi).1
    have er : (rsS n).den (envOf [t] fn) = t - pour (mOf fn) (LV (mOf fn) n t) n := by
      show IntKind.u64.wrap ((E.app 22 (exS n)).den _) = _
      simp only [exS, den_lit, den_var, den_ite, den_cmp, den_cmpB, den_tst, den_tstF, den_negT, den_negF, den_andT, den_andF, lssT, leqT, gtrT, geqT, eqlT, neqT, lssF, leqF, gtrF, geqF, eqlF, neqF, den_app, den_nilL, den_consL, den_add, den_sub, den_mul, den_tdiv, den_tmod, den_mx, den_mn, den_blit, den_bin, binI, env_v, env_f, List.flatten_cons, List.flatten_nil, List.append_nil, List.cons_append, List.nil_append, List.getD_cons_zero, List.getD_cons_succ, List.getD_nil, h.rest, Int.toNat_natCast]
      exact wrap_u64 (by omega) (by omega)
    obtain ⟨es, x, d, g1, g2, g3, g4, g5, g6, g7, g8⟩ := dist_at (env := envOf [t] fn) (n := n) (s := fun i => min (LV (mOf fn) n t) (mOf fn i)) (m := mOf fn)
      (fun i => by simp only [shE, LvE, lvS, exS, den_lit, den_var, den_ite, den_cmp, den_cmpB, den_tst, den_tstF, den_negT, den_negF, den_andT, den_andF, lssT, leqT, gtrT, geqT, eqlT, neqT, lssF, leqF, gtrF, geqF, eqlF, neqF, den_app, den_nilL, den_consL, den_add, den_sub, den_mul, den_tdiv, den_tmod, den_mx, den_mn, den_blit, den_bin, binI, env_v, env_f, List.flatten_cons, List.flatten_nil, List.append_nil, List.cons_append, List.nil_append, List.getD_cons_zero, List.getD_cons_succ, List.getD_nil, h.lv, Int.toNat_natCast]; rfl) (fun i => rfl) n (rsS n) [] (Nat.le_refl _) (by simp) (by rw [er]; omega)
    rw [er] at g5 g8
    simp only [Nat.sub_self, Nat.zero_add] at g3 g4 g6 g7 g8
    rw [key, g1]
    refine ⟨rfl, rfl, x, is_share ht hm g5 (fun i hi => g6 i (Nat.zero_le _) hi) (by rw [pour_sum]; exact g7) ?_, fun i hi => ?_⟩
    · rcases g8 with g8 | g8
      · exact .inl g8
      · exact .inr fun i hi => g8 i (Nat.zero_le _) hi
    · show fn 1200 [(E.app 1000 es).den (envOf [t] fn), (i : Int)] = x i
      rw [h.rows 1200 _ (by decide) (by decide), show (1200 : Nat) = 1100 + 100 * 1 + 0 from rfl, rowOp_get (by decide) (by decide)]
      show rowGet 1 0 (fn 1000 (denL (envOf [t] fn) es)) (i : Int) = x i
      rw [h.rows 1000 _ (by decide) (by decide), rowOp_lit]
      unfold rowGet
      rw [dec_enc, Int.toNat_natCast, Nat.one_mul, Nat.add_zero, ← g4 i (Nat.zero_le _) hi]
      exact (denL_getD es i).symm
end Go.Proofs.Ytpedboeggmffnaa
