/- The functions of spans over small spans: no error, and the ends in plain numbers. -/
import Derived.Test.YtlaalhbicblbeaaSy25
import Derived.Test.YtlaalhbicblbeaaSfc
import Derived.Test.YtlaalhbicblbeaaQia
namespace Go.Proofs.Ytlaalhbicblbeaa
open Go Go.SX Go.RowKit QI
set_option linter.unusedVariables false
set_option linter.unusedSimpArgs false
set_option maxRecDepth 100000

/-- a contract out of another one of the same function -/
theorem FC_weak {P : Program} {fn : Nat → List Int → Int} {c c' : FC} (hc : c.OK P fn) (hf : c'.f = c.f) (hs : c'.sig = c.sig) (hp : c'.v.plain = true)
    (h : ∀ r, wfAll c.sig r → (∀ b, b ∈ c'.pre → b.den (envOf r.flatten fn) = true) → (∀ b, b ∈ c.pre → b.den (envOf r.flatten fn) = true) ∧ (∀ b, b ∈ c'.facts → b.den (envOf r.flatten fn) = true) ∧
      (∀ p, p ∈ c'.rngs → p.2.1 ≤ p.1.den (envOf r.flatten fn) ∧ p.1.den (envOf r.flatten fn) ≤ p.2.2) ∧ c.v.eqv (envOf r.flatten fn) c'.v) : c'.OK P fn := by
  refine ⟨hp, by rw [hf]; exact hc.ent, fun r hr hpre => ?_⟩
  rw [hs] at hr
  obtain ⟨k1, k2, k3, k4⟩ := h r hr hpre
  obtain ⟨_, _, hcalls⟩ := hc.calls r hr k1
  refine ⟨k2, fun e lo hi hm => k3 _ hm, fun w => ?_⟩
  rw [hf, hs]
  refine (hcalls w).mono ?_
  rintro e w' ⟨V, rfl, hV, hb⟩
  exact ⟨V, rfl, fun ρ => Rep.eqv k4 (hV ρ), hb⟩

theorem vF_fl' {a b d : Int} (hd : 1 ≤ d) (h1 : -10000000000 ≤ a * b) (h2 : a * b ≤ 10000000000) : QM.vF a b d = fl (a * b) d := by
  have h := fl_bd (k := d) hd h1 h2 (by omega) (by omega)
  have hc := QM.vF_cl (a := a) (b := b) (d := d) (by omega)
  unfold QM.Cl QM.fl at hc
  change _ = fl (a * b) d ∨ _ at hc
  unfold fl at *
  generalize a * b / d = q at *
  omega
theorem vC_ce' {a b d : Int} (hd : 1 ≤ d) (h1 : -10000000000 ≤ a * b) (h2 : a * b ≤ 10000000000) : QM.vC a b d = ce (a * b) d := by
  have h := ce_bd (k := d) hd h1 h2 (by omega) (by omega)
  have hc := QM.vC_cl (a := a) (b := b) (d := d) (by omega)
  unfold QM.Cl QM.ce at hc
  unfold ce at *
  generalize -(a * b) / d = q at *
  omega
/-- products of small numbers -/
theorem prod_bd {a b : Int} (h1 : -70000 ≤ a) (h2 : a ≤ 70000) (h3 : -70000 ≤ b) (h4 : b ≤ 70000) : -10000000000 ≤ a * b ∧ a * b ≤ 10000000000 := by
  have := box_mul h1 h2 h3 h4
  omega
theorem sp_small {lo hi : Int} (h1 : -10000000000 ≤ lo) (h2 : lo ≤ 10000000000) (h3 : -10000000000 ≤ hi) (h4 : hi ≤ 10000000000) : QM.sp lo hi = (lo, hi, 0) := by
  unfold QM.sp QM.isQ
  rw [if_pos]
  simp only [decide_eq_true_eq]
  omega
theorem vld_small {lo hi : Int} (h1 : -70000 ≤ lo) (h2 : lo ≤ hi) (h3 : hi ≤ 70000) : QM.vld lo hi = true := QM.vld_iff.2 (by omega)
theorem all2 {a b c d : Int} (h1 : QM.vld a b = true) (h2 : QM.vld c d = true) : allV [(a, b), (c, d)] = true := by
  unfold allV; simp [h1, h2]
theorem isQ_small {n : Int} (h1 : -70000 ≤ n) (h2 : n ≤ 70000) : QM.isQ n = true := by unfold QM.isQ; simp only [decide_eq_true_eq]; omega
theorem isD_small {n : Int} (h1 : 1 ≤ n) (h2 : n ≤ 70000) : QM.isD n = true := by unfold QM.isD; simp only [decide_eq_true_eq]; omega
theorem scaleP_small {a b n k : Int} (h1 : -70000 ≤ a) (h2 : a ≤ b) (h3 : b ≤ 70000) (h4 : -70000 ≤ n) (h5 : n ≤ 70000) (h6 : 1 ≤ k) (h7 : k ≤ 70000) : scaleP a b n k = (scL a b n k, scH a b n k, 0) := by
  have p1 := prod_bd h1 (show a ≤ 70000 by omega) h4 h5
  have p2 := prod_bd (show -70000 ≤ b by omega) h3 h4 h5
  have f1 := fl_bd (k := k) h6 p1.1 p1.2 (by omega) (by omega)
  have f2 := fl_bd (k := k) h6 p2.1 p2.2 (by omega) (by omega)
  have g1 := ce_bd (k := k) h6 p1.1 p1.2 (by omega) (by omega)
  have g2 := ce_bd (k := k) h6 p2.1 p2.2 (by omega) (by omega)
  unfold scaleP
  rw [if_pos ⟨vld_small h1 h2 h3, isQ_small h4 h5, isD_small h6 h7⟩]
  simp only [loF, hiF, List.foldl_cons, List.foldl_nil]
  rw [vF_fl' h6 p1.1 p1.2, vF_fl' h6 p2.1 p2.2, vC_ce' h6 p1.1 p1.2, vC_ce' h6 p2.1 p2.2]
  exact sp_small (by omega) (by omega) (by omega) (by omega)
theorem mulP_small {a b c d k : Int} (h1 : -70000 ≤ a) (h2 : a ≤ b) (h3 : b ≤ 70000) (h4 : -70000 ≤ c) (h4' : c ≤ d) (h5 : d ≤ 70000) (h6 : 1 ≤ k) (h7 : k ≤ 70000) : mulP a b c d k = (muL a b c d k, muH a b c d k, 0) := by
  have p1 := prod_bd h1 (show a ≤ 70000 by omega) h4 (show c ≤ 70000 by omega)
  have p2 := prod_bd h1 (show a ≤ 70000 by omega) (show -70000 ≤ d by omega) h5
  have p3 := prod_bd (show -70000 ≤ b by omega) h3 h4 (show c ≤ 70000 by omega)
  have p4 := prod_bd (show -70000 ≤ b by omega) h3 (show -70000 ≤ d by omega) h5
  have f1 := fl_bd (k := k) h6 p1.1 p1.2 (by omega) (by omega)
  have f2 := fl_bd (k := k) h6 p2.1 p2.2 (by omega) (by omega)
  have f3 := fl_bd (k := k) h6 p3.1 p3.2 (by omega) (by omega)
  have f4 := fl_bd (k := k) h6 p4.1 p4.2 (by omega) (by omega)
  have g1 := ce_bd (k := k) h6 p1.1 p1.2 (by omega) (by omega)
  have g2 := ce_bd (k := k) h6 p2.1 p2.2 (by omega) (by omega)
  have g3 := ce_bd (k := k) h6 p3.1 p3.2 (by omega) (by omega)
  have g4 := ce_bd (k := k) h6 p4.1 p4.2 (by omega) (by omega)
  unfold mulP
  rw [if_pos ⟨all2 (vld_small h1 h2 h3) (vld_small h4 h4' h5), isD_small h6 h7⟩]
  simp only [loF, hiF, List.foldl_cons, List.foldl_nil]
  rw [vF_fl' h6 p1.1 p1.2, vF_fl' h6 p2.1 p2.2, vF_fl' h6 p3.1 p3.2, vF_fl' h6 p4.1 p4.2, vC_ce' h6 p1.1 p1.2, vC_ce' h6 p2.1 p2.2, vC_ce' h6 p3.1 p3.2, vC_ce' h6 p4.1 p4.2]
  exact sp_small (by omega) (by omega) (by omega) (by omega)
theorem divQ_small {a b c d n : Int} (h1 : -70000 ≤ a) (h2 : a ≤ b) (h3 : b ≤ 70000) (h4 : 1 ≤ c) (h4' : c ≤ d) (h6 : -70000 ≤ n) (h7 : n ≤ 70000) : divQ a b c d n = (quL a b c d n, quH a b c d n, 0) := by
  have p1 := prod_bd h1 (show a ≤ 70000 by omega) h6 h7
  have p2 := prod_bd (show -70000 ≤ b by omega) h3 h6 h7
  have hd : 1 ≤ d := by omega
  have f1 := fl_bd (k := c) h4 p1.1 p1.2 (by omega) (by omega)
  have f2 := fl_bd (k := d) hd p1.1 p1.2 (by omega) (by omega)
  have f3 := fl_bd (k := c) h4 p2.1 p2.2 (by omega) (by omega)
  have f4 := fl_bd (k := d) hd p2.1 p2.2 (by omega) (by omega)
  have g1 := ce_bd (k := c) h4 p1.1 p1.2 (by omega) (by omega)
  have g2 := ce_bd (k := d) hd p1.1 p1.2 (by omega) (by omega)
  have g3 := ce_bd (k := c) h4 p2.1 p2.2 (by omega) (by omega)
  have g4 := ce_bd (k := d) hd p2.1 p2.2 (by omega) (by omega)
  unfold divQ
  simp only [loF, hiF, List.foldl_cons, List.foldl_nil]
  rw [vF_fl' h4 p1.1 p1.2, vF_fl' hd p1.1 p1.2, vF_fl' h4 p2.1 p2.2, vF_fl' hd p2.1 p2.2, vC_ce' h4 p1.1 p1.2, vC_ce' hd p1.1 p1.2, vC_ce' h4 p2.1 p2.2, vC_ce' hd p2.1 p2.2]
  exact sp_small (by omega) (by omega) (by omega) (by omega)
theorem divP_small {a b c d n : Int} (h1 : -70000 ≤ a) (h2 : a ≤ b) (h3 : b ≤ 70000) (h4 : -70000 ≤ c) (h4' : c ≤ d) (h5 : d ≤ 70000) (h6 : -70000 ≤ n) (h7 : n ≤ 70000) : divP a b c d n = (dvL a b c d n, dvH a b c d n, dvE c d) := by
  unfold divP dvL dvH dvE
  rw [if_pos ⟨all2 (vld_small h1 h2 h3) (vld_small h4 h4' h5), isQ_small h6 h7⟩]
  by_cases hz : c ≤ 0 ∧ 0 ≤ d
  · rw [if_pos (by simpa using hz), if_pos hz, if_pos hz, if_pos hz]
  · rw [if_neg (by simpa using hz), if_neg hz, if_neg hz, if_neg hz]
    by_cases hd : d < 0
    · rw [if_pos hd, if_pos hd, if_pos hd]
      exact divQ_small (by omega) (by omega) (by omega) (by omega) (by omega) h6 h7
    · rw [if_neg hd, if_neg hd, if_neg hd]
      exact divQ_small h1 h2 h3 (by omega) h4' h6 h7
theorem squareP_small {a b k : Int} (h1 : -70000 ≤ a) (h2 : a ≤ b) (h3 : b ≤ 70000) (h6 : 1 ≤ k) (h7 : k ≤ 70000) : squareP a b k = (sqL a b k, sqH a b k, 0) := by
  have p1 := prod_bd h1 (show a ≤ 70000 by omega) h1 (show a ≤ 70000 by omega)
  have p2 := prod_bd (show -70000 ≤ b by omega) h3 (show -70000 ≤ b by omega) h3
  have f1 := fl_bd (k := k) h6 p1.1 p1.2 (by omega) (by omega)
  have f2 := fl_bd (k := k) h6 p2.1 p2.2 (by omega) (by omega)
  have g1 := ce_bd (k := k) h6 p1.1 p1.2 (by omega) (by omega)
  have g2 := ce_bd (k := k) h6 p2.1 p2.2 (by omega) (by omega)
  have z1 : QM.vF 0 0 k = 0 := by rw [vF_fl' h6 (by omega) (by omega)]; exact fl_zero k
  have z2 : QM.vC 0 0 k = 0 := by rw [vC_ce' h6 (by omega) (by omega)]; exact ce_zero k
  unfold squareP sqL sqH
  rw [if_pos ⟨vld_small h1 h2 h3, isD_small h6 h7⟩]
  simp only [loF, hiF, List.foldl_cons, List.foldl_nil]
  rw [vF_fl' h6 p1.1 p1.2, vF_fl' h6 p2.1 p2.2, vC_ce' h6 p1.1 p1.2, vC_ce' h6 p2.1 p2.2, z1, z2]
  by_cases hz : a ≤ 0 ∧ 0 ≤ b
  · rw [if_pos (by simpa using hz), if_pos hz, if_pos hz]
    exact sp_small (by omega) (by omega) (by omega) (by omega)
  · rw [if_neg (by simpa using hz), if_neg hz, if_neg hz]
    exact sp_small (by omega) (by omega) (by omega) (by omega)

def lms (e : E) (a b : Int) : List BE := [.cmp .geq e (.lit a), .cmp .leq e (.lit b)]
def span0 : List BE := lms (.var 0) (-70000) 70000 ++ lms (.var 1) (-70000) 70000 ++ [.cmp .leq (.var 0) (.var 1)]
def span2 : List BE := lms (.var 2) (-70000) 70000 ++ lms (.var 3) (-70000) 70000 ++ [.cmp .leq (.var 2) (.var 3)]
def rg (e : E) : E × Int × Int := (e, -10000000000, 10000000000)
theorem q_add0 (a b c d : Int) : sfn 100 [a, b, c, d] = (addP a b c d).1 := rfl
theorem q_add1 (a b c d : Int) : sfn 101 [a, b, c, d] = (addP a b c d).2.1 := rfl
theorem q_add2 (a b c d : Int) : sfn 102 [a, b, c, d] = (addP a b c d).2.2 := rfl
theorem q_sub0 (a b c d : Int) : sfn 110 [a, b, c, d] = (subP a b c d).1 := rfl
theorem q_sub1 (a b c d : Int) : sfn 111 [a, b, c, d] = (subP a b c d).2.1 := rfl
theorem q_sub2 (a b c d : Int) : sfn 112 [a, b, c, d] = (subP a b c d).2.2 := rfl
theorem q_hull0 (a b c d : Int) : sfn 150 [a, b, c, d] = (hullP a b c d).1 := rfl
theorem q_hull1 (a b c d : Int) : sfn 151 [a, b, c, d] = (hullP a b c d).2.1 := rfl
theorem q_hull2 (a b c d : Int) : sfn 152 [a, b, c, d] = (hullP a b c d).2.2 := rfl
theorem q_meet0 (a b c d : Int) : sfn 140 [a, b, c, d] = (meetP a b c d).1 := rfl
theorem q_meet1 (a b c d : Int) : sfn 141 [a, b, c, d] = (meetP a b c d).2.1 := rfl
theorem q_meet2 (a b c d : Int) : sfn 142 [a, b, c, d] = (meetP a b c d).2.2 := rfl
theorem q_mul0 (a b c d e : Int) : sfn 120 [a, b, c, d, e] = (mulP a b c d e).1 := rfl
theorem q_mul1 (a b c d e : Int) : sfn 121 [a, b, c, d, e] = (mulP a b c d e).2.1 := rfl
theorem q_mul2 (a b c d e : Int) : sfn 122 [a, b, c, d, e] = (mulP a b c d e).2.2 := rfl
theorem q_div0 (a b c d e : Int) : sfn 130 [a, b, c, d, e] = (divP a b c d e).1 := rfl
theorem q_div1 (a b c d e : Int) : sfn 131 [a, b, c, d, e] = (divP a b c d e).2.1 := rfl
theorem q_div2 (a b c d e : Int) : sfn 132 [a, b, c, d, e] = (divP a b c d e).2.2 := rfl
theorem q_scale0 (a b c d : Int) : sfn 170 [a, b, c, d] = (scaleP a b c d).1 := rfl
theorem q_scale1 (a b c d : Int) : sfn 171 [a, b, c, d] = (scaleP a b c d).2.1 := rfl
theorem q_scale2 (a b c d : Int) : sfn 172 [a, b, c, d] = (scaleP a b c d).2.2 := rfl
theorem q_square0 (a b c : Int) : sfn 180 [a, b, c] = (squareP a b c).1 := rfl
theorem q_square1 (a b c : Int) : sfn 181 [a, b, c] = (squareP a b c).2.1 := rfl
theorem q_square2 (a b c : Int) : sfn 182 [a, b, c] = (squareP a b c).2.2 := rfl
theorem q_clip0 (a b c d : Int) : sfn 230 [a, b, c, d] = (clipP a b c d).1 := rfl
theorem q_clip1 (a b c d : Int) : sfn 231 [a, b, c, d] = (clipP a b c d).2.1 := rfl
theorem q_clip2 (a b c d : Int) : sfn 232 [a, b, c, d] = (clipP a b c d).2.2 := rfl
theorem q_grow0 (a b c : Int) : sfn 220 [a, b, c] = (growP a b c).1 := rfl
theorem q_grow1 (a b c : Int) : sfn 221 [a, b, c] = (growP a b c).2.1 := rfl
theorem q_grow2 (a b c : Int) : sfn 222 [a, b, c] = (growP a b c).2.2 := rfl
theorem addP_small {a b c d : Int} (h1 : -70000 ≤ a) (h2 : a ≤ b) (h3 : b ≤ 70000) (h4 : -70000 ≤ c) (h4' : c ≤ d) (h5 : d ≤ 70000) : addP a b c d = (a + c, b + d, 0) := by
  unfold addP; rw [if_pos (all2 (vld_small h1 h2 h3) (vld_small h4 h4' h5))]; exact sp_small (by omega) (by omega) (by omega) (by omega)
theorem subP_small {a b c d : Int} (h1 : -70000 ≤ a) (h2 : a ≤ b) (h3 : b ≤ 70000) (h4 : -70000 ≤ c) (h4' : c ≤ d) (h5 : d ≤ 70000) : subP a b c d = (a - d, b - c, 0) := by
  unfold subP; rw [if_pos (all2 (vld_small h1 h2 h3) (vld_small h4 h4' h5))]; exact sp_small (by omega) (by omega) (by omega) (by omega)
theorem hullP_small {a b c d : Int} (h1 : -70000 ≤ a) (h2 : a ≤ b) (h3 : b ≤ 70000) (h4 : -70000 ≤ c) (h4' : c ≤ d) (h5 : d ≤ 70000) : hullP a b c d = (min a c, max b d, 0) := by
  unfold hullP; rw [if_pos (all2 (vld_small h1 h2 h3) (vld_small h4 h4' h5))]
theorem meetP_small {a b c d : Int} (h1 : -70000 ≤ a) (h2 : a ≤ b) (h3 : b ≤ 70000) (h4 : -70000 ≤ c) (h4' : c ≤ d) (h5 : d ≤ 70000) : meetP a b c d = if max a c ≤ min b d then (max a c, min b d, 0) else (0, 0, 5) := by
  unfold meetP; rw [if_pos (all2 (vld_small h1 h2 h3) (vld_small h4 h4' h5))]
theorem clipP_small {a b c d : Int} (h1 : -70000 ≤ a) (h2 : a ≤ b) (h3 : b ≤ 70000) (h4 : -200000 ≤ c) (h4' : c ≤ d) (h5 : d ≤ 200000) : clipP a b c d = (min (max a c) d, min (max b c) d, 0) := by
  unfold clipP; rw [if_pos (all2 (vld_small h1 h2 h3) (QM.vld_iff.2 (by omega)))]
theorem growP_small {a b d : Int} (h1 : -70000 ≤ a) (h2 : a ≤ b) (h3 : b ≤ 70000) (h4 : 0 ≤ d) (h5 : d ≤ 70000) : growP a b d = (a - d, b + d, 0) := by
  unfold growP; rw [if_pos ⟨vld_small h1 h2 h3, h4, by omega⟩]; exact sp_small (by omega) (by omega) (by omega) (by omega)
def rh (e : E) : E × Int × Int := (e, -70000, 70000)
theorem dv_le {a b c d n : Int} (h2 : a ≤ b) (h4 : c ≤ d) : dvL a b c d n ≤ dvH a b c d n := by
  unfold dvL dvH
  by_cases hz : c ≤ 0 ∧ 0 ≤ d
  · rw [if_pos hz, if_pos hz]; omega
  · rw [if_neg hz, if_neg hz]
    by_cases hd : d < 0
    · rw [if_pos hd, if_pos hd]
      exact (qu_in (n := n) (Int.le_refl (-b)) (by omega) (Int.le_refl (-a)) (Int.le_refl (-d)) (by omega) (Int.le_refl (-c)) (by omega)).2.1
    · rw [if_neg hd, if_neg hd]
      exact (qu_in (n := n) (Int.le_refl a) h2 (Int.le_refl b) (Int.le_refl c) h4 (Int.le_refl d) (by omega)).2.1
theorem scale_rng {a b n k : Int} (h1 : -70000 ≤ a) (h2 : a ≤ b) (h3 : b ≤ 70000) (h4 : -70000 ≤ n) (h5 : n ≤ 70000) (h6 : 1 ≤ k) (h7 : k ≤ 70000) {p : Int × Int × Int} (hP : p = (scL a b n k, scH a b n k, 0)) :
    (-10000000000 ≤ p.1 ∧ p.1 ≤ 10000000000) ∧ (-10000000000 ≤ p.2.1 ∧ p.2.1 ≤ 10000000000) := by
  have p1 := prod_bd h1 (show a ≤ 70000 by omega) h4 h5
  have p2 := prod_bd (show -70000 ≤ b by omega) h3 h4 h5
  have f1 := fl_bd (k := k) h6 p1.1 p1.2 (by omega) (by omega)
  have f2 := fl_bd (k := k) h6 p2.1 p2.2 (by omega) (by omega)
  have g1 := ce_bd (k := k) h6 p1.1 p1.2 (by omega) (by omega)
  have g2 := ce_bd (k := k) h6 p2.1 p2.2 (by omega) (by omega)
  subst hP; simp only [scL, scH]; omega
theorem mul_rng {a b c d k : Int} (h1 : -70000 ≤ a) (h2 : a ≤ b) (h3 : b ≤ 70000) (h4 : -70000 ≤ c) (h4' : c ≤ d) (h5 : d ≤ 70000) (h6 : 1 ≤ k) (h7 : k ≤ 70000) {p : Int × Int × Int} (hP : p = (muL a b c d k, muH a b c d k, 0)) :
    (-10000000000 ≤ p.1 ∧ p.1 ≤ 10000000000) ∧ (-10000000000 ≤ p.2.1 ∧ p.2.1 ≤ 10000000000) := by
  have p1 := prod_bd h1 (show a ≤ 70000 by omega) h4 (show c ≤ 70000 by omega)
  have p2 := prod_bd h1 (show a ≤ 70000 by omega) (show -70000 ≤ d by omega) h5
  have p3 := prod_bd (show -70000 ≤ b by omega) h3 h4 (show c ≤ 70000 by omega)
  have p4 := prod_bd (show -70000 ≤ b by omega) h3 (show -70000 ≤ d by omega) h5
  have f1 := fl_bd (k := k) h6 p1.1 p1.2 (by omega) (by omega)
  have f2 := fl_bd (k := k) h6 p2.1 p2.2 (by omega) (by omega)
  have f3 := fl_bd (k := k) h6 p3.1 p3.2 (by omega) (by omega)
  have f4 := fl_bd (k := k) h6 p4.1 p4.2 (by omega) (by omega)
  have g1 := ce_bd (k := k) h6 p1.1 p1.2 (by omega) (by omega)
  have g2 := ce_bd (k := k) h6 p2.1 p2.2 (by omega) (by omega)
  have g3 := ce_bd (k := k) h6 p3.1 p3.2 (by omega) (by omega)
  have g4 := ce_bd (k := k) h6 p4.1 p4.2 (by omega) (by omega)
  subst hP; simp only [muL, muH]; omega
theorem qu_rng {a b c d n : Int} (h1 : -70000 ≤ a) (h2 : a ≤ b) (h3 : b ≤ 70000) (h4 : 1 ≤ c) (h4' : c ≤ d) (h6 : -70000 ≤ n) (h7 : n ≤ 70000) :
    (-10000000000 ≤ quL a b c d n ∧ quL a b c d n ≤ 10000000000) ∧ (-10000000000 ≤ quH a b c d n ∧ quH a b c d n ≤ 10000000000) := by
  have p1 := prod_bd h1 (show a ≤ 70000 by omega) h6 h7
  have p2 := prod_bd (show -70000 ≤ b by omega) h3 h6 h7
  have hd : 1 ≤ d := by omega
  have f1 := fl_bd (k := c) h4 p1.1 p1.2 (by omega) (by omega)
  have f2 := fl_bd (k := d) hd p1.1 p1.2 (by omega) (by omega)
  have f3 := fl_bd (k := c) h4 p2.1 p2.2 (by omega) (by omega)
  have f4 := fl_bd (k := d) hd p2.1 p2.2 (by omega) (by omega)
  have g1 := ce_bd (k := c) h4 p1.1 p1.2 (by omega) (by omega)
  have g2 := ce_bd (k := d) hd p1.1 p1.2 (by omega) (by omega)
  have g3 := ce_bd (k := c) h4 p2.1 p2.2 (by omega) (by omega)
  have g4 := ce_bd (k := d) hd p2.1 p2.2 (by omega) (by omega)
  unfold quL quH; omega
theorem div_rng {a b c d n : Int} (h1 : -70000 ≤ a) (h2 : a ≤ b) (h3 : b ≤ 70000) (h4 : -70000 ≤ c) (h4' : c ≤ d) (h5 : d ≤ 70000) (h6 : -70000 ≤ n) (h7 : n ≤ 70000) {p : Int × Int × Int} (hP : p = (dvL a b c d n, dvH a b c d n, dvE c d)) :
    (-10000000000 ≤ p.1 ∧ p.1 ≤ 10000000000) ∧ (-10000000000 ≤ p.2.1 ∧ p.2.1 ≤ 10000000000) := by
  subst hP
  simp only [dvL, dvH]
  by_cases hz : c ≤ 0 ∧ 0 ≤ d
  · rw [if_pos hz, if_pos hz]; omega
  · rw [if_neg hz, if_neg hz]
    by_cases hd : d < 0
    · rw [if_pos hd, if_pos hd]
      exact qu_rng (by omega) (by omega) (by omega) (by omega) (by omega) h6 h7
    · rw [if_neg hd, if_neg hd]
      exact qu_rng h1 h2 h3 (by omega) h4' h6 h7
theorem square_rng {a b k : Int} (h1 : -70000 ≤ a) (h2 : a ≤ b) (h3 : b ≤ 70000) (h6 : 1 ≤ k) (h7 : k ≤ 70000) {p : Int × Int × Int} (hP : p = (sqL a b k, sqH a b k, 0)) :
    (-10000000000 ≤ p.1 ∧ p.1 ≤ 10000000000) ∧ (-10000000000 ≤ p.2.1 ∧ p.2.1 ≤ 10000000000) := by
  have p1 := prod_bd h1 (show a ≤ 70000 by omega) h1 (show a ≤ 70000 by omega)
  have p2 := prod_bd (show -70000 ≤ b by omega) h3 (show -70000 ≤ b by omega) h3
  have f1 := fl_bd (k := k) h6 p1.1 p1.2 (by omega) (by omega)
  have f2 := fl_bd (k := k) h6 p2.1 p2.2 (by omega) (by omega)
  have g1 := ce_bd (k := k) h6 p1.1 p1.2 (by omega) (by omega)
  have g2 := ce_bd (k := k) h6 p2.1 p2.2 (by omega) (by omega)
  subst hP; simp only [sqL, sqH]; split <;> omega
def addS : FC := ⟨25, [(true, [some .i64, some .i64]), (true, [some .i64, some .i64])], .tuple [.agg [.int .i64 (.op .add (.var 0) (.var 2)), .int .i64 (.op .add (.var 1) (.var 3))], .int .i64 (.lit 0)], span0 ++ span2, [], []⟩
theorem addS_ok : addS.OK Try.prog sfn := by
  refine FC_weak addFC_ok rfl rfl rfl fun r hr hpre => ?_
  obtain ⟨xs0, r0, rfl, hw0, _, xs1, r1, rfl, hw1, _, er⟩ := hr
  obtain ⟨a, b, rfl⟩ := wl2 hw0
  obtain ⟨c, d, rfl⟩ := wl2 hw1
  rw [show r1 = [] from er] at hpre ⊢
  simp only [addS, span0, span2, lms, List.mem_append, List.mem_cons, List.not_mem_nil, or_false, forall_eq_or_imp, forall_eq, or_imp, forall_and, den_lit, den_var, den_ite, den_cmp, den_cmpB, den_tst, den_tstF, den_negT, den_negF, den_andT, den_andF, lssT, leqT, gtrT, geqT, eqlT, neqT, lssF, leqF, gtrF, geqF, eqlF, neqF, den_app, den_nilL, den_consL, den_add, den_sub, den_mul, den_tdiv, den_tmod, den_mx, den_mn, env_v, env_f, List.flatten_cons, List.flatten_nil, List.append_nil, List.cons_append, List.nil_append, List.getD_cons_zero, List.getD_cons_succ, List.getD_nil] at hpre
  have hP : addP a b c d = _ := addP_small (by omega) (by omega) (by omega) (by omega) (by omega) (by omega)
  refine ⟨by simp [addFC], by simp [addS], by simp [addS], ?_⟩
  · simp only [addFC, addV, addS, SV.eqv, SV.eqvL, den_lit, den_var, den_ite, den_cmp, den_cmpB, den_tst, den_tstF, den_negT, den_negF, den_andT, den_andF, lssT, leqT, gtrT, geqT, eqlT, neqT, lssF, leqF, gtrF, geqF, eqlF, neqF, den_app, den_nilL, den_consL, den_add, den_sub, den_mul, den_tdiv, den_tmod, den_mx, den_mn, env_v, env_f, List.flatten_cons, List.flatten_nil, List.append_nil, List.cons_append, List.nil_append, List.getD_cons_zero, List.getD_cons_succ, List.getD_nil, q_add0, q_add1, q_add2, true_and, and_true]
    rw [hP]; simp
def subS : FC := ⟨27, [(true, [some .i64, some .i64]), (true, [some .i64, some .i64])], .tuple [.agg [.int .i64 (.op .sub (.var 0) (.var 3)), .int .i64 (.op .sub (.var 1) (.var 2))], .int .i64 (.lit 0)], span0 ++ span2, [], []⟩
theorem subS_ok : subS.OK Try.prog sfn := by
  refine FC_weak subFC_ok rfl rfl rfl fun r hr hpre => ?_
  obtain ⟨xs0, r0, rfl, hw0, _, xs1, r1, rfl, hw1, _, er⟩ := hr
  obtain ⟨a, b, rfl⟩ := wl2 hw0
  obtain ⟨c, d, rfl⟩ := wl2 hw1
  rw [show r1 = [] from er] at hpre ⊢
  simp only [subS, span0, span2, lms, List.mem_append, List.mem_cons, List.not_mem_nil, or_false, forall_eq_or_imp, forall_eq, or_imp, forall_and, den_lit, den_var, den_ite, den_cmp, den_cmpB, den_tst, den_tstF, den_negT, den_negF, den_andT, den_andF, lssT, leqT, gtrT, geqT, eqlT, neqT, lssF, leqF, gtrF, geqF, eqlF, neqF, den_app, den_nilL, den_consL, den_add, den_sub, den_mul, den_tdiv, den_tmod, den_mx, den_mn, env_v, env_f, List.flatten_cons, List.flatten_nil, List.append_nil, List.cons_append, List.nil_append, List.getD_cons_zero, List.getD_cons_succ, List.getD_nil] at hpre
  have hP : subP a b c d = _ := subP_small (by omega) (by omega) (by omega) (by omega) (by omega) (by omega)
  refine ⟨by simp [subFC], by simp [subS], by simp [subS], ?_⟩
  · simp only [subFC, subV, subS, SV.eqv, SV.eqvL, den_lit, den_var, den_ite, den_cmp, den_cmpB, den_tst, den_tstF, den_negT, den_negF, den_andT, den_andF, lssT, leqT, gtrT, geqT, eqlT, neqT, lssF, leqF, gtrF, geqF, eqlF, neqF, den_app, den_nilL, den_consL, den_add, den_sub, den_mul, den_tdiv, den_tmod, den_mx, den_mn, env_v, env_f, List.flatten_cons, List.flatten_nil, List.append_nil, List.cons_append, List.nil_append, List.getD_cons_zero, List.getD_cons_succ, List.getD_nil, q_sub0, q_sub1, q_sub2, true_and, and_true]
    rw [hP]; simp
def hullS : FC := ⟨35, [(true, [some .i64, some .i64]), (true, [some .i64, some .i64])], .tuple [.agg [.int .i64 (.app 150 [.var 0, .var 1, .var 2, .var 3]), .int .i64 (.app 151 [.var 0, .var 1, .var 2, .var 3])], .int .i64 (.lit 0)], span0 ++ span2, [.cmp .leq (.app 150 [.var 0, .var 1, .var 2, .var 3]) (.var 0), .cmp .leq (.app 150 [.var 0, .var 1, .var 2, .var 3]) (.var 2), .cmp .leq (.var 1) (.app 151 [.var 0, .var 1, .var 2, .var 3]), .cmp .leq (.var 3) (.app 151 [.var 0, .var 1, .var 2, .var 3]), .cmp .leq (.app 150 [.var 0, .var 1, .var 2, .var 3]) (.app 151 [.var 0, .var 1, .var 2, .var 3])], [rh (.app 150 [.var 0, .var 1, .var 2, .var 3]), rh (.app 151 [.var 0, .var 1, .var 2, .var 3])]⟩
theorem hullS_ok : hullS.OK Try.prog sfn := by
  refine FC_weak hullFC_ok rfl rfl rfl fun r hr hpre => ?_
  obtain ⟨xs0, r0, rfl, hw0, _, xs1, r1, rfl, hw1, _, er⟩ := hr
  obtain ⟨a, b, rfl⟩ := wl2 hw0
  obtain ⟨c, d, rfl⟩ := wl2 hw1
  rw [show r1 = [] from er] at hpre ⊢
  simp only [hullS, span0, span2, lms, List.mem_append, List.mem_cons, List.not_mem_nil, or_false, forall_eq_or_imp, forall_eq, or_imp, forall_and, den_lit, den_var, den_ite, den_cmp, den_cmpB, den_tst, den_tstF, den_negT, den_negF, den_andT, den_andF, lssT, leqT, gtrT, geqT, eqlT, neqT, lssF, leqF, gtrF, geqF, eqlF, neqF, den_app, den_nilL, den_consL, den_add, den_sub, den_mul, den_tdiv, den_tmod, den_mx, den_mn, env_v, env_f, List.flatten_cons, List.flatten_nil, List.append_nil, List.cons_append, List.nil_append, List.getD_cons_zero, List.getD_cons_succ, List.getD_nil] at hpre
  have hP : hullP a b c d = _ := hullP_small (by omega) (by omega) (by omega) (by omega) (by omega) (by omega)
  have hbd : (-70000 ≤ (hullP a b c d).1 ∧ (hullP a b c d).1 ≤ 70000) ∧ (-70000 ≤ (hullP a b c d).2.1 ∧ (hullP a b c d).2.1 ≤ 70000) := by
    rw [hP]; simp only; omega
  refine ⟨by simp [hullFC], fun be hm => by
    simp only [hullS, List.mem_cons, List.not_mem_nil, or_false] at hm
    rcases hm with rfl | rfl | rfl | rfl | rfl <;>
    · simp only [den_lit, den_var, den_ite, den_cmp, den_cmpB, den_tst, den_tstF, den_negT, den_negF, den_andT, den_andF, lssT, leqT, gtrT, geqT, eqlT, neqT, lssF, leqF, gtrF, geqF, eqlF, neqF, den_app, den_nilL, den_consL, den_add, den_sub, den_mul, den_tdiv, den_tmod, den_mx, den_mn, env_v, env_f, List.flatten_cons, List.flatten_nil, List.append_nil, List.cons_append, List.nil_append, List.getD_cons_zero, List.getD_cons_succ, List.getD_nil, q_hull0, q_hull1]
      rw [hP]
      simp only; omega, fun p hm => by
    simp only [hullS, rg, rh, List.mem_cons, List.not_mem_nil, or_false] at hm
    rcases hm with rfl | rfl
    · simp only [den_lit, den_var, den_ite, den_cmp, den_cmpB, den_tst, den_tstF, den_negT, den_negF, den_andT, den_andF, lssT, leqT, gtrT, geqT, eqlT, neqT, lssF, leqF, gtrF, geqF, eqlF, neqF, den_app, den_nilL, den_consL, den_add, den_sub, den_mul, den_tdiv, den_tmod, den_mx, den_mn, env_v, env_f, List.flatten_cons, List.flatten_nil, List.append_nil, List.cons_append, List.nil_append, List.getD_cons_zero, List.getD_cons_succ, List.getD_nil, q_hull0]; exact hbd.1
    · simp only [den_lit, den_var, den_ite, den_cmp, den_cmpB, den_tst, den_tstF, den_negT, den_negF, den_andT, den_andF, lssT, leqT, gtrT, geqT, eqlT, neqT, lssF, leqF, gtrF, geqF, eqlF, neqF, den_app, den_nilL, den_consL, den_add, den_sub, den_mul, den_tdiv, den_tmod, den_mx, den_mn, env_v, env_f, List.flatten_cons, List.flatten_nil, List.append_nil, List.cons_append, List.nil_append, List.getD_cons_zero, List.getD_cons_succ, List.getD_nil, q_hull1]; exact hbd.2, ?_⟩
  · simp only [hullFC, hullV, hullS, SV.eqv, SV.eqvL, den_lit, den_var, den_ite, den_cmp, den_cmpB, den_tst, den_tstF, den_negT, den_negF, den_andT, den_andF, lssT, leqT, gtrT, geqT, eqlT, neqT, lssF, leqF, gtrF, geqF, eqlF, neqF, den_app, den_nilL, den_consL, den_add, den_sub, den_mul, den_tdiv, den_tmod, den_mx, den_mn, env_v, env_f, List.flatten_cons, List.flatten_nil, List.append_nil, List.cons_append, List.nil_append, List.getD_cons_zero, List.getD_cons_succ, List.getD_nil, q_hull0, q_hull1, q_hull2, true_and, and_true]
    rw [hP]
def meetS : FC := ⟨33, [(true, [some .i64, some .i64]), (true, [some .i64, some .i64])], .tuple [.agg [.int .i64 (.app 140 [.var 0, .var 1, .var 2, .var 3]), .int .i64 (.app 141 [.var 0, .var 1, .var 2, .var 3])], .int .i64 (.app 142 [.var 0, .var 1, .var 2, .var 3])], span0 ++ span2, [.cmp .leq (.app 140 [.var 0, .var 1, .var 2, .var 3]) (.app 141 [.var 0, .var 1, .var 2, .var 3])], [rg (.app 140 [.var 0, .var 1, .var 2, .var 3]), rg (.app 141 [.var 0, .var 1, .var 2, .var 3])]⟩
theorem meetS_ok : meetS.OK Try.prog sfn := by
  refine FC_weak meetFC_ok rfl rfl rfl fun r hr hpre => ?_
  obtain ⟨xs0, r0, rfl, hw0, _, xs1, r1, rfl, hw1, _, er⟩ := hr
  obtain ⟨a, b, rfl⟩ := wl2 hw0
  obtain ⟨c, d, rfl⟩ := wl2 hw1
  rw [show r1 = [] from er] at hpre ⊢
  simp only [meetS, span0, span2, lms, List.mem_append, List.mem_cons, List.not_mem_nil, or_false, forall_eq_or_imp, forall_eq, or_imp, forall_and, den_lit, den_var, den_ite, den_cmp, den_cmpB, den_tst, den_tstF, den_negT, den_negF, den_andT, den_andF, lssT, leqT, gtrT, geqT, eqlT, neqT, lssF, leqF, gtrF, geqF, eqlF, neqF, den_app, den_nilL, den_consL, den_add, den_sub, den_mul, den_tdiv, den_tmod, den_mx, den_mn, env_v, env_f, List.flatten_cons, List.flatten_nil, List.append_nil, List.cons_append, List.nil_append, List.getD_cons_zero, List.getD_cons_succ, List.getD_nil] at hpre
  have hP : meetP a b c d = _ := meetP_small (by omega) (by omega) (by omega) (by omega) (by omega) (by omega)
  have hbd : (-10000000000 ≤ (meetP a b c d).1 ∧ (meetP a b c d).1 ≤ 10000000000) ∧ (-10000000000 ≤ (meetP a b c d).2.1 ∧ (meetP a b c d).2.1 ≤ 10000000000) := by
    rw [hP]; split <;> simp <;> omega
  refine ⟨by simp [meetFC], fun be hm => by
    simp only [meetS, List.mem_cons, List.not_mem_nil, or_false] at hm
    subst hm <;>
    · simp only [den_lit, den_var, den_ite, den_cmp, den_cmpB, den_tst, den_tstF, den_negT, den_negF, den_andT, den_andF, lssT, leqT, gtrT, geqT, eqlT, neqT, lssF, leqF, gtrF, geqF, eqlF, neqF, den_app, den_nilL, den_consL, den_add, den_sub, den_mul, den_tdiv, den_tmod, den_mx, den_mn, env_v, env_f, List.flatten_cons, List.flatten_nil, List.append_nil, List.cons_append, List.nil_append, List.getD_cons_zero, List.getD_cons_succ, List.getD_nil, q_meet0, q_meet1]
      rw [hP]
      split <;> simp <;> omega, fun p hm => by
    simp only [meetS, rg, rh, List.mem_cons, List.not_mem_nil, or_false] at hm
    rcases hm with rfl | rfl
    · simp only [den_lit, den_var, den_ite, den_cmp, den_cmpB, den_tst, den_tstF, den_negT, den_negF, den_andT, den_andF, lssT, leqT, gtrT, geqT, eqlT, neqT, lssF, leqF, gtrF, geqF, eqlF, neqF, den_app, den_nilL, den_consL, den_add, den_sub, den_mul, den_tdiv, den_tmod, den_mx, den_mn, env_v, env_f, List.flatten_cons, List.flatten_nil, List.append_nil, List.cons_append, List.nil_append, List.getD_cons_zero, List.getD_cons_succ, List.getD_nil, q_meet0]; exact hbd.1
    · simp only [den_lit, den_var, den_ite, den_cmp, den_cmpB, den_tst, den_tstF, den_negT, den_negF, den_andT, den_andF, lssT, leqT, gtrT, geqT, eqlT, neqT, lssF, leqF, gtrF, geqF, eqlF, neqF, den_app, den_nilL, den_consL, den_add, den_sub, den_mul, den_tdiv, den_tmod, den_mx, den_mn, env_v, env_f, List.flatten_cons, List.flatten_nil, List.append_nil, List.cons_append, List.nil_append, List.getD_cons_zero, List.getD_cons_succ, List.getD_nil, q_meet1]; exact hbd.2, ?_⟩
  · simp only [meetFC, meetV, meetS, SV.eqv, SV.eqvL, den_lit, den_var, den_ite, den_cmp, den_cmpB, den_tst, den_tstF, den_negT, den_negF, den_andT, den_andF, lssT, leqT, gtrT, geqT, eqlT, neqT, lssF, leqF, gtrF, geqF, eqlF, neqF, den_app, den_nilL, den_consL, den_add, den_sub, den_mul, den_tdiv, den_tmod, den_mx, den_mn, env_v, env_f, List.flatten_cons, List.flatten_nil, List.append_nil, List.cons_append, List.nil_append, List.getD_cons_zero, List.getD_cons_succ, List.getD_nil, q_meet0, q_meet1, q_meet2, and_self]
def mulS : FC := ⟨29, [(true, [some .i64, some .i64]), (true, [some .i64, some .i64]), (false, [some .i64])], .tuple [.agg [.int .i64 (.app 120 [.var 0, .var 1, .var 2, .var 3, .var 4]), .int .i64 (.app 121 [.var 0, .var 1, .var 2, .var 3, .var 4])], .int .i64 (.lit 0)], span0 ++ span2 ++ lms (.var 4) 1 70000, [.cmp .leq (.app 120 [.var 0, .var 1, .var 2, .var 3, .var 4]) (.app 121 [.var 0, .var 1, .var 2, .var 3, .var 4])], [rg (.app 120 [.var 0, .var 1, .var 2, .var 3, .var 4]), rg (.app 121 [.var 0, .var 1, .var 2, .var 3, .var 4])]⟩
theorem mulS_ok : mulS.OK Try.prog sfn := by
  refine FC_weak mulFC_ok rfl rfl rfl fun r hr hpre => ?_
  obtain ⟨xs0, r0, rfl, hw0, _, xs1, r1, rfl, hw1, _, xs2, r2, rfl, hw2, _, er⟩ := hr
  obtain ⟨a, b, rfl⟩ := wl2 hw0
  obtain ⟨c, d, rfl⟩ := wl2 hw1
  obtain ⟨e, rfl⟩ := wl1 hw2
  rw [show r2 = [] from er] at hpre ⊢
  simp only [mulS, span0, span2, lms, List.mem_append, List.mem_cons, List.not_mem_nil, or_false, forall_eq_or_imp, forall_eq, or_imp, forall_and, den_lit, den_var, den_ite, den_cmp, den_cmpB, den_tst, den_tstF, den_negT, den_negF, den_andT, den_andF, lssT, leqT, gtrT, geqT, eqlT, neqT, lssF, leqF, gtrF, geqF, eqlF, neqF, den_app, den_nilL, den_consL, den_add, den_sub, den_mul, den_tdiv, den_tmod, den_mx, den_mn, env_v, env_f, List.flatten_cons, List.flatten_nil, List.append_nil, List.cons_append, List.nil_append, List.getD_cons_zero, List.getD_cons_succ, List.getD_nil] at hpre
  have hP : mulP a b c d e = _ := mulP_small (by omega) (by omega) (by omega) (by omega) (by omega) (by omega) (by omega) (by omega)
  have hbd := mul_rng (by omega) (by omega) (by omega) (by omega) (by omega) (by omega) (by omega) (by omega) hP
  refine ⟨by simp [mulFC], fun be hm => by
    simp only [mulS, List.mem_cons, List.not_mem_nil, or_false] at hm
    subst hm <;>
    · simp only [den_lit, den_var, den_ite, den_cmp, den_cmpB, den_tst, den_tstF, den_negT, den_negF, den_andT, den_andF, lssT, leqT, gtrT, geqT, eqlT, neqT, lssF, leqF, gtrF, geqF, eqlF, neqF, den_app, den_nilL, den_consL, den_add, den_sub, den_mul, den_tdiv, den_tmod, den_mx, den_mn, env_v, env_f, List.flatten_cons, List.flatten_nil, List.append_nil, List.cons_append, List.nil_append, List.getD_cons_zero, List.getD_cons_succ, List.getD_nil, q_mul0, q_mul1]
      rw [hP]
      exact (mu_in (k := e) (Int.le_refl a) (by omega) (Int.le_refl b) (Int.le_refl c) (by omega) (Int.le_refl d) (by omega)).2.1, fun p hm => by
    simp only [mulS, rg, rh, List.mem_cons, List.not_mem_nil, or_false] at hm
    rcases hm with rfl | rfl
    · simp only [den_lit, den_var, den_ite, den_cmp, den_cmpB, den_tst, den_tstF, den_negT, den_negF, den_andT, den_andF, lssT, leqT, gtrT, geqT, eqlT, neqT, lssF, leqF, gtrF, geqF, eqlF, neqF, den_app, den_nilL, den_consL, den_add, den_sub, den_mul, den_tdiv, den_tmod, den_mx, den_mn, env_v, env_f, List.flatten_cons, List.flatten_nil, List.append_nil, List.cons_append, List.nil_append, List.getD_cons_zero, List.getD_cons_succ, List.getD_nil, q_mul0]; exact hbd.1
    · simp only [den_lit, den_var, den_ite, den_cmp, den_cmpB, den_tst, den_tstF, den_negT, den_negF, den_andT, den_andF, lssT, leqT, gtrT, geqT, eqlT, neqT, lssF, leqF, gtrF, geqF, eqlF, neqF, den_app, den_nilL, den_consL, den_add, den_sub, den_mul, den_tdiv, den_tmod, den_mx, den_mn, env_v, env_f, List.flatten_cons, List.flatten_nil, List.append_nil, List.cons_append, List.nil_append, List.getD_cons_zero, List.getD_cons_succ, List.getD_nil, q_mul1]; exact hbd.2, ?_⟩
  · simp only [mulFC, mulV, mulS, SV.eqv, SV.eqvL, den_lit, den_var, den_ite, den_cmp, den_cmpB, den_tst, den_tstF, den_negT, den_negF, den_andT, den_andF, lssT, leqT, gtrT, geqT, eqlT, neqT, lssF, leqF, gtrF, geqF, eqlF, neqF, den_app, den_nilL, den_consL, den_add, den_sub, den_mul, den_tdiv, den_tmod, den_mx, den_mn, env_v, env_f, List.flatten_cons, List.flatten_nil, List.append_nil, List.cons_append, List.nil_append, List.getD_cons_zero, List.getD_cons_succ, List.getD_nil, q_mul0, q_mul1, q_mul2, true_and, and_true]
    rw [hP]
def divS : FC := ⟨31, [(true, [some .i64, some .i64]), (true, [some .i64, some .i64]), (false, [some .i64])], .tuple [.agg [.int .i64 (.app 130 [.var 0, .var 1, .var 2, .var 3, .var 4]), .int .i64 (.app 131 [.var 0, .var 1, .var 2, .var 3, .var 4])], .int .i64 (.app 132 [.var 0, .var 1, .var 2, .var 3, .var 4])], span0 ++ span2 ++ lms (.var 4) (-70000) 70000, [.cmp .leq (.app 130 [.var 0, .var 1, .var 2, .var 3, .var 4]) (.app 131 [.var 0, .var 1, .var 2, .var 3, .var 4])], [rg (.app 130 [.var 0, .var 1, .var 2, .var 3, .var 4]), rg (.app 131 [.var 0, .var 1, .var 2, .var 3, .var 4])]⟩
theorem divS_ok : divS.OK Try.prog sfn := by
  refine FC_weak divFC_ok rfl rfl rfl fun r hr hpre => ?_
  obtain ⟨xs0, r0, rfl, hw0, _, xs1, r1, rfl, hw1, _, xs2, r2, rfl, hw2, _, er⟩ := hr
  obtain ⟨a, b, rfl⟩ := wl2 hw0
  obtain ⟨c, d, rfl⟩ := wl2 hw1
  obtain ⟨e, rfl⟩ := wl1 hw2
  rw [show r2 = [] from er] at hpre ⊢
  simp only [divS, span0, span2, lms, List.mem_append, List.mem_cons, List.not_mem_nil, or_false, forall_eq_or_imp, forall_eq, or_imp, forall_and, den_lit, den_var, den_ite, den_cmp, den_cmpB, den_tst, den_tstF, den_negT, den_negF, den_andT, den_andF, lssT, leqT, gtrT, geqT, eqlT, neqT, lssF, leqF, gtrF, geqF, eqlF, neqF, den_app, den_nilL, den_consL, den_add, den_sub, den_mul, den_tdiv, den_tmod, den_mx, den_mn, env_v, env_f, List.flatten_cons, List.flatten_nil, List.append_nil, List.cons_append, List.nil_append, List.getD_cons_zero, List.getD_cons_succ, List.getD_nil] at hpre
  have hP : divP a b c d e = _ := divP_small (by omega) (by omega) (by omega) (by omega) (by omega) (by omega) (by omega) (by omega)
  have hbd := div_rng (by omega) (by omega) (by omega) (by omega) (by omega) (by omega) (by omega) (by omega) hP
  refine ⟨by simp [divFC], fun be hm => by
    simp only [divS, List.mem_cons, List.not_mem_nil, or_false] at hm
    subst hm <;>
    · simp only [den_lit, den_var, den_ite, den_cmp, den_cmpB, den_tst, den_tstF, den_negT, den_negF, den_andT, den_andF, lssT, leqT, gtrT, geqT, eqlT, neqT, lssF, leqF, gtrF, geqF, eqlF, neqF, den_app, den_nilL, den_consL, den_add, den_sub, den_mul, den_tdiv, den_tmod, den_mx, den_mn, env_v, env_f, List.flatten_cons, List.flatten_nil, List.append_nil, List.cons_append, List.nil_append, List.getD_cons_zero, List.getD_cons_succ, List.getD_nil, q_div0, q_div1]
      rw [hP]
      exact dv_le (by omega) (by omega), fun p hm => by
    simp only [divS, rg, rh, List.mem_cons, List.not_mem_nil, or_false] at hm
    rcases hm with rfl | rfl
    · simp only [den_lit, den_var, den_ite, den_cmp, den_cmpB, den_tst, den_tstF, den_negT, den_negF, den_andT, den_andF, lssT, leqT, gtrT, geqT, eqlT, neqT, lssF, leqF, gtrF, geqF, eqlF, neqF, den_app, den_nilL, den_consL, den_add, den_sub, den_mul, den_tdiv, den_tmod, den_mx, den_mn, env_v, env_f, List.flatten_cons, List.flatten_nil, List.append_nil, List.cons_append, List.nil_append, List.getD_cons_zero, List.getD_cons_succ, List.getD_nil, q_div0]; exact hbd.1
    · simp only [den_lit, den_var, den_ite, den_cmp, den_cmpB, den_tst, den_tstF, den_negT, den_negF, den_andT, den_andF, lssT, leqT, gtrT, geqT, eqlT, neqT, lssF, leqF, gtrF, geqF, eqlF, neqF, den_app, den_nilL, den_consL, den_add, den_sub, den_mul, den_tdiv, den_tmod, den_mx, den_mn, env_v, env_f, List.flatten_cons, List.flatten_nil, List.append_nil, List.cons_append, List.nil_append, List.getD_cons_zero, List.getD_cons_succ, List.getD_nil, q_div1]; exact hbd.2, ?_⟩
  · simp only [divFC, divV, divS, SV.eqv, SV.eqvL, den_lit, den_var, den_ite, den_cmp, den_cmpB, den_tst, den_tstF, den_negT, den_negF, den_andT, den_andF, lssT, leqT, gtrT, geqT, eqlT, neqT, lssF, leqF, gtrF, geqF, eqlF, neqF, den_app, den_nilL, den_consL, den_add, den_sub, den_mul, den_tdiv, den_tmod, den_mx, den_mn, env_v, env_f, List.flatten_cons, List.flatten_nil, List.append_nil, List.cons_append, List.nil_append, List.getD_cons_zero, List.getD_cons_succ, List.getD_nil, q_div0, q_div1, q_div2, and_self]
def scaleS : FC := ⟨64, [(true, [some .i64, some .i64]), (false, [some .i64]), (false, [some .i64])], .tuple [.agg [.int .i64 (.app 170 [.var 0, .var 1, .var 2, .var 3]), .int .i64 (.app 171 [.var 0, .var 1, .var 2, .var 3])], .int .i64 (.lit 0)], span0 ++ lms (.var 2) (-70000) 70000 ++ lms (.var 3) 1 70000, [.cmp .leq (.app 170 [.var 0, .var 1, .var 2, .var 3]) (.app 171 [.var 0, .var 1, .var 2, .var 3])], [rg (.app 170 [.var 0, .var 1, .var 2, .var 3]), rg (.app 171 [.var 0, .var 1, .var 2, .var 3])]⟩
theorem scaleS_ok : scaleS.OK Try.prog sfn := by
  refine FC_weak scaleFC_ok rfl rfl rfl fun r hr hpre => ?_
  obtain ⟨xs0, r0, rfl, hw0, _, xs1, r1, rfl, hw1, _, xs2, r2, rfl, hw2, _, er⟩ := hr
  obtain ⟨a, b, rfl⟩ := wl2 hw0
  obtain ⟨c, rfl⟩ := wl1 hw1
  obtain ⟨d, rfl⟩ := wl1 hw2
  rw [show r2 = [] from er] at hpre ⊢
  simp only [scaleS, span0, span2, lms, List.mem_append, List.mem_cons, List.not_mem_nil, or_false, forall_eq_or_imp, forall_eq, or_imp, forall_and, den_lit, den_var, den_ite, den_cmp, den_cmpB, den_tst, den_tstF, den_negT, den_negF, den_andT, den_andF, lssT, leqT, gtrT, geqT, eqlT, neqT, lssF, leqF, gtrF, geqF, eqlF, neqF, den_app, den_nilL, den_consL, den_add, den_sub, den_mul, den_tdiv, den_tmod, den_mx, den_mn, env_v, env_f, List.flatten_cons, List.flatten_nil, List.append_nil, List.cons_append, List.nil_append, List.getD_cons_zero, List.getD_cons_succ, List.getD_nil] at hpre
  have hP : scaleP a b c d = _ := scaleP_small (by omega) (by omega) (by omega) (by omega) (by omega) (by omega) (by omega)
  have hbd := scale_rng (by omega) (by omega) (by omega) (by omega) (by omega) (by omega) (by omega) hP
  refine ⟨by simp [scaleFC], fun be hm => by
    simp only [scaleS, List.mem_cons, List.not_mem_nil, or_false] at hm
    subst hm <;>
    · simp only [den_lit, den_var, den_ite, den_cmp, den_cmpB, den_tst, den_tstF, den_negT, den_negF, den_andT, den_andF, lssT, leqT, gtrT, geqT, eqlT, neqT, lssF, leqF, gtrF, geqF, eqlF, neqF, den_app, den_nilL, den_consL, den_add, den_sub, den_mul, den_tdiv, den_tmod, den_mx, den_mn, env_v, env_f, List.flatten_cons, List.flatten_nil, List.append_nil, List.cons_append, List.nil_append, List.getD_cons_zero, List.getD_cons_succ, List.getD_nil, q_scale0, q_scale1]
      rw [hP]
      exact (sc_in (n := c) (k := d) (Int.le_refl a) (by omega) (Int.le_refl b) (by omega)).2.1, fun p hm => by
    simp only [scaleS, rg, rh, List.mem_cons, List.not_mem_nil, or_false] at hm
    rcases hm with rfl | rfl
    · simp only [den_lit, den_var, den_ite, den_cmp, den_cmpB, den_tst, den_tstF, den_negT, den_negF, den_andT, den_andF, lssT, leqT, gtrT, geqT, eqlT, neqT, lssF, leqF, gtrF, geqF, eqlF, neqF, den_app, den_nilL, den_consL, den_add, den_sub, den_mul, den_tdiv, den_tmod, den_mx, den_mn, env_v, env_f, List.flatten_cons, List.flatten_nil, List.append_nil, List.cons_append, List.nil_append, List.getD_cons_zero, List.getD_cons_succ, List.getD_nil, q_scale0]; exact hbd.1
    · simp only [den_lit, den_var, den_ite, den_cmp, den_cmpB, den_tst, den_tstF, den_negT, den_negF, den_andT, den_andF, lssT, leqT, gtrT, geqT, eqlT, neqT, lssF, leqF, gtrF, geqF, eqlF, neqF, den_app, den_nilL, den_consL, den_add, den_sub, den_mul, den_tdiv, den_tmod, den_mx, den_mn, env_v, env_f, List.flatten_cons, List.flatten_nil, List.append_nil, List.cons_append, List.nil_append, List.getD_cons_zero, List.getD_cons_succ, List.getD_nil, q_scale1]; exact hbd.2, ?_⟩
  · simp only [scaleFC, scaleV, scaleS, SV.eqv, SV.eqvL, den_lit, den_var, den_ite, den_cmp, den_cmpB, den_tst, den_tstF, den_negT, den_negF, den_andT, den_andF, lssT, leqT, gtrT, geqT, eqlT, neqT, lssF, leqF, gtrF, geqF, eqlF, neqF, den_app, den_nilL, den_consL, den_add, den_sub, den_mul, den_tdiv, den_tmod, den_mx, den_mn, env_v, env_f, List.flatten_cons, List.flatten_nil, List.append_nil, List.cons_append, List.nil_append, List.getD_cons_zero, List.getD_cons_succ, List.getD_nil, q_scale0, q_scale1, q_scale2, true_and, and_true]
    rw [hP]
def squareS : FC := ⟨65, [(true, [some .i64, some .i64]), (false, [some .i64])], .tuple [.agg [.int .i64 (.app 180 [.var 0, .var 1, .var 2]), .int .i64 (.app 181 [.var 0, .var 1, .var 2])], .int .i64 (.lit 0)], span0 ++ lms (.var 2) 1 70000, [.cmp .leq (.app 180 [.var 0, .var 1, .var 2]) (.app 181 [.var 0, .var 1, .var 2])], [rg (.app 180 [.var 0, .var 1, .var 2]), rg (.app 181 [.var 0, .var 1, .var 2])]⟩
theorem squareS_ok : squareS.OK Try.prog sfn := by
  refine FC_weak squareFC_ok rfl rfl rfl fun r hr hpre => ?_
  obtain ⟨xs0, r0, rfl, hw0, _, xs1, r1, rfl, hw1, _, er⟩ := hr
  obtain ⟨a, b, rfl⟩ := wl2 hw0
  obtain ⟨c, rfl⟩ := wl1 hw1
  rw [show r1 = [] from er] at hpre ⊢
  simp only [squareS, span0, span2, lms, List.mem_append, List.mem_cons, List.not_mem_nil, or_false, forall_eq_or_imp, forall_eq, or_imp, forall_and, den_lit, den_var, den_ite, den_cmp, den_cmpB, den_tst, den_tstF, den_negT, den_negF, den_andT, den_andF, lssT, leqT, gtrT, geqT, eqlT, neqT, lssF, leqF, gtrF, geqF, eqlF, neqF, den_app, den_nilL, den_consL, den_add, den_sub, den_mul, den_tdiv, den_tmod, den_mx, den_mn, env_v, env_f, List.flatten_cons, List.flatten_nil, List.append_nil, List.cons_append, List.nil_append, List.getD_cons_zero, List.getD_cons_succ, List.getD_nil] at hpre
  have hP : squareP a b c = _ := squareP_small (by omega) (by omega) (by omega) (by omega) (by omega)
  have hbd := square_rng (by omega) (by omega) (by omega) (by omega) (by omega) hP
  refine ⟨by simp [squareFC], fun be hm => by
    simp only [squareS, List.mem_cons, List.not_mem_nil, or_false] at hm
    subst hm <;>
    · simp only [den_lit, den_var, den_ite, den_cmp, den_cmpB, den_tst, den_tstF, den_negT, den_negF, den_andT, den_andF, lssT, leqT, gtrT, geqT, eqlT, neqT, lssF, leqF, gtrF, geqF, eqlF, neqF, den_app, den_nilL, den_consL, den_add, den_sub, den_mul, den_tdiv, den_tmod, den_mx, den_mn, env_v, env_f, List.flatten_cons, List.flatten_nil, List.append_nil, List.cons_append, List.nil_append, List.getD_cons_zero, List.getD_cons_succ, List.getD_nil, q_square0, q_square1]
      rw [hP]
      exact (sq_in (k := c) (Int.le_refl a) (by omega) (Int.le_refl b) (by omega)).2.1, fun p hm => by
    simp only [squareS, rg, rh, List.mem_cons, List.not_mem_nil, or_false] at hm
    rcases hm with rfl | rfl
    · simp only [den_lit, den_var, den_ite, den_cmp, den_cmpB, den_tst, den_tstF, den_negT, den_negF, den_andT, den_andF, lssT, leqT, gtrT, geqT, eqlT, neqT, lssF, leqF, gtrF, geqF, eqlF, neqF, den_app, den_nilL, den_consL, den_add, den_sub, den_mul, den_tdiv, den_tmod, den_mx, den_mn, env_v, env_f, List.flatten_cons, List.flatten_nil, List.append_nil, List.cons_append, List.nil_append, List.getD_cons_zero, List.getD_cons_succ, List.getD_nil, q_square0]; exact hbd.1
    · simp only [den_lit, den_var, den_ite, den_cmp, den_cmpB, den_tst, den_tstF, den_negT, den_negF, den_andT, den_andF, lssT, leqT, gtrT, geqT, eqlT, neqT, lssF, leqF, gtrF, geqF, eqlF, neqF, den_app, den_nilL, den_consL, den_add, den_sub, den_mul, den_tdiv, den_tmod, den_mx, den_mn, env_v, env_f, List.flatten_cons, List.flatten_nil, List.append_nil, List.cons_append, List.nil_append, List.getD_cons_zero, List.getD_cons_succ, List.getD_nil, q_square1]; exact hbd.2, ?_⟩
  · simp only [squareFC, squareV, squareS, SV.eqv, SV.eqvL, den_lit, den_var, den_ite, den_cmp, den_cmpB, den_tst, den_tstF, den_negT, den_negF, den_andT, den_andF, lssT, leqT, gtrT, geqT, eqlT, neqT, lssF, leqF, gtrF, geqF, eqlF, neqF, den_app, den_nilL, den_consL, den_add, den_sub, den_mul, den_tdiv, den_tmod, den_mx, den_mn, env_v, env_f, List.flatten_cons, List.flatten_nil, List.append_nil, List.cons_append, List.nil_append, List.getD_cons_zero, List.getD_cons_succ, List.getD_nil, q_square0, q_square1, q_square2, true_and, and_true]
    rw [hP]
def clipS : FC := ⟨94, [(true, [some .i64, some .i64]), (false, [some .i64]), (false, [some .i64])], .tuple [.agg [.int .i64 (.op .mn (.op .mx (.var 0) (.var 2)) (.var 3)), .int .i64 (.op .mn (.op .mx (.var 1) (.var 2)) (.var 3))], .int .i64 (.lit 0)], span0 ++ lms (.var 2) (-200000) 200000 ++ lms (.var 3) (-200000) 200000 ++ [.cmp .leq (.var 2) (.var 3)], [], []⟩
theorem clipS_ok : clipS.OK Try.prog sfn := by
  refine FC_weak clipFC_ok rfl rfl rfl fun r hr hpre => ?_
  obtain ⟨xs0, r0, rfl, hw0, _, xs1, r1, rfl, hw1, _, xs2, r2, rfl, hw2, _, er⟩ := hr
  obtain ⟨a, b, rfl⟩ := wl2 hw0
  obtain ⟨c, rfl⟩ := wl1 hw1
  obtain ⟨d, rfl⟩ := wl1 hw2
  rw [show r2 = [] from er] at hpre ⊢
  simp only [clipS, span0, span2, lms, List.mem_append, List.mem_cons, List.not_mem_nil, or_false, forall_eq_or_imp, forall_eq, or_imp, forall_and, den_lit, den_var, den_ite, den_cmp, den_cmpB, den_tst, den_tstF, den_negT, den_negF, den_andT, den_andF, lssT, leqT, gtrT, geqT, eqlT, neqT, lssF, leqF, gtrF, geqF, eqlF, neqF, den_app, den_nilL, den_consL, den_add, den_sub, den_mul, den_tdiv, den_tmod, den_mx, den_mn, env_v, env_f, List.flatten_cons, List.flatten_nil, List.append_nil, List.cons_append, List.nil_append, List.getD_cons_zero, List.getD_cons_succ, List.getD_nil] at hpre
  have hP : clipP a b c d = _ := clipP_small (by omega) (by omega) (by omega) (by omega) (by omega) (by omega)
  refine ⟨by simp [clipFC], by simp [clipS], by simp [clipS], ?_⟩
  · simp only [clipFC, clipV, clipS, SV.eqv, SV.eqvL, den_lit, den_var, den_ite, den_cmp, den_cmpB, den_tst, den_tstF, den_negT, den_negF, den_andT, den_andF, lssT, leqT, gtrT, geqT, eqlT, neqT, lssF, leqF, gtrF, geqF, eqlF, neqF, den_app, den_nilL, den_consL, den_add, den_sub, den_mul, den_tdiv, den_tmod, den_mx, den_mn, env_v, env_f, List.flatten_cons, List.flatten_nil, List.append_nil, List.cons_append, List.nil_append, List.getD_cons_zero, List.getD_cons_succ, List.getD_nil, q_clip0, q_clip1, q_clip2, true_and, and_true]
    rw [hP]; simp
def growS : FC := ⟨92, [(true, [some .i64, some .i64]), (false, [some .i64])], .tuple [.agg [.int .i64 (.op .sub (.var 0) (.var 2)), .int .i64 (.op .add (.var 1) (.var 2))], .int .i64 (.lit 0)], span0 ++ lms (.var 2) 0 70000, [], []⟩
theorem growS_ok : growS.OK Try.prog sfn := by
  refine FC_weak growFC_ok rfl rfl rfl fun r hr hpre => ?_
  obtain ⟨xs0, r0, rfl, hw0, _, xs1, r1, rfl, hw1, _, er⟩ := hr
  obtain ⟨a, b, rfl⟩ := wl2 hw0
  obtain ⟨c, rfl⟩ := wl1 hw1
  rw [show r1 = [] from er] at hpre ⊢
  simp only [growS, span0, span2, lms, List.mem_append, List.mem_cons, List.not_mem_nil, or_false, forall_eq_or_imp, forall_eq, or_imp, forall_and, den_lit, den_var, den_ite, den_cmp, den_cmpB, den_tst, den_tstF, den_negT, den_negF, den_andT, den_andF, lssT, leqT, gtrT, geqT, eqlT, neqT, lssF, leqF, gtrF, geqF, eqlF, neqF, den_app, den_nilL, den_consL, den_add, den_sub, den_mul, den_tdiv, den_tmod, den_mx, den_mn, env_v, env_f, List.flatten_cons, List.flatten_nil, List.append_nil, List.cons_append, List.nil_append, List.getD_cons_zero, List.getD_cons_succ, List.getD_nil] at hpre
  have hP : growP a b c = _ := growP_small (by omega) (by omega) (by omega) (by omega) (by omega)
  refine ⟨by simp [growFC], by simp [growS], by simp [growS], ?_⟩
  · simp only [growFC, growV, growS, SV.eqv, SV.eqvL, den_lit, den_var, den_ite, den_cmp, den_cmpB, den_tst, den_tstF, den_negT, den_negF, den_andT, den_andF, lssT, leqT, gtrT, geqT, eqlT, neqT, lssF, leqF, gtrF, geqF, eqlF, neqF, den_app, den_nilL, den_consL, den_add, den_sub, den_mul, den_tdiv, den_tmod, den_mx, den_mn, env_v, env_f, List.flatten_cons, List.flatten_nil, List.append_nil, List.cons_append, List.nil_append, List.getD_cons_zero, List.getD_cons_succ, List.getD_nil, q_grow0, q_grow1, q_grow2, true_and, and_true]
    rw [hP]; simp
end Go.Proofs.Ytlaalhbicblbeaa

/- What the laws over small spans go by. -/
namespace Go.Proofs.Ytlaalhbicblbeaa
open Go Go.SX Go.RowKit QI
set_option linter.unusedVariables false
set_option linter.unusedSimpArgs false
set_option maxRecDepth 100000
theorem joinS_ok (fn : Nat → List Int → Int) : ParOK Try.prog fn joinPar := ⟨fun env _ => noBook_ok _ _, fun env _ f i g h => by cases h⟩
def smallK : List (Option IntKind) := [some .i16, some .i16, some .u16]
def hiE : E := .app 10 [.var 0, .var 1]
theorem q_hi (a b : Int) : sfn 10 [a, b] = hiS a b := rfl
theorem q_ins (a b c d : Int) : sfn 160 [a, b, c, d] = bI (insideB a b c d) := rfl
theorem hiS_bd {a b : Int} (h1 : -32768 ≤ a ∧ a ≤ 32767) (h2 : -32768 ≤ b ∧ b ≤ 32767) : a ≤ hiS a b ∧ -32768 ≤ hiS a b ∧ hiS a b ≤ 65534 := by
  unfold hiS; split <;> omega
def spanS : FC := ⟨61, [(true, smallK)], .agg [.int .i64 (.var 0), .int .i64 hiE], [], [.cmp .leq (.var 0) hiE], [(hiE, -32768, 65534)]⟩
theorem wf3s {xs : List Int} (h : wfL smallK xs) : ∃ a b c, xs = [a, b, c] ∧ (-32768 ≤ a ∧ a ≤ 32767) ∧ (-32768 ≤ b ∧ b ≤ 32767) ∧ (0 ≤ c ∧ c ≤ 65535) := by
  obtain ⟨a, _, rfl, a1, b, _, rfl, b1, c, _, rfl, c1, e'⟩ := h
  rw [show _ = ([] : List Int) from e']
  exact ⟨a, b, c, rfl, wf_rng (a1 _ rfl), wf_rng (b1 _ rfl), wf_rng (c1 _ rfl)⟩
def spanT : VT := .leaf (.agg [(.int .i64 (.var 0)), (.int .i64 (.ite (.cmp .lss (.var 1) (.lit 0)) (.op .add (.var 0) (.op .sub (.lit 0) (.op .add (.var 1) (.lit 1)))) (.op .add (.var 0) (.var 1))))])
theorem spanS_ok : spanS.OK Try.prog sfn := by
  refine FC.ok_eqv (X := joinPar) (d := 5) (n := 1000) (t := spanT) mixedS (joinS_ok sfn) rfl (by kernel_rfl) (by kernel_rfl) fun r hr hpre => ?_
  obtain ⟨xs0, r0, rfl, hw0, _, er⟩ := hr
  obtain ⟨a, b, c, rfl, h1, h2, h3⟩ := wf3s hw0
  rw [show r0 = [] from er]
  have e := hiS_bd h1 h2
  refine ⟨?_, ?_, ?_⟩
  · intro be hm
    simp only [spanS, List.mem_singleton] at hm
    subst hm
    simp only [hiE, den_lit, den_var, den_ite, den_cmp, den_cmpB, den_tst, den_tstF, den_negT, den_negF, den_andT, den_andF, lssT, leqT, gtrT, geqT, eqlT, neqT, lssF, leqF, gtrF, geqF, eqlF, neqF, den_app, den_nilL, den_consL, den_add, den_sub, den_mul, den_tdiv, den_tmod, den_mx, den_mn, env_v, env_f, List.flatten_cons, List.flatten_nil, List.append_nil, List.cons_append, List.nil_append, List.getD_cons_zero, List.getD_cons_succ, List.getD_nil, q_hi]
    exact e.1
  · intro p hm
    simp only [spanS, List.mem_singleton] at hm
    subst hm
    simp only [hiE, den_lit, den_var, den_ite, den_cmp, den_cmpB, den_tst, den_tstF, den_negT, den_negF, den_andT, den_andF, lssT, leqT, gtrT, geqT, eqlT, neqT, lssF, leqF, gtrF, geqF, eqlF, neqF, den_app, den_nilL, den_consL, den_add, den_sub, den_mul, den_tdiv, den_tmod, den_mx, den_mn, env_v, env_f, List.flatten_cons, List.flatten_nil, List.append_nil, List.cons_append, List.nil_append, List.getD_cons_zero, List.getD_cons_succ, List.getD_nil, q_hi]
    exact e.2
  · simp only [spanT, spanS, hiE, VT.holds, SV.eqv, SV.eqvL, den_lit, den_var, den_ite, den_cmp, den_cmpB, den_tst, den_tstF, den_negT, den_negF, den_andT, den_andF, lssT, leqT, gtrT, geqT, eqlT, neqT, lssF, leqF, gtrF, geqF, eqlF, neqF, den_app, den_nilL, den_consL, den_add, den_sub, den_mul, den_tdiv, den_tmod, den_mx, den_mn, env_v, env_f, List.flatten_cons, List.flatten_nil, List.append_nil, List.cons_append, List.nil_append, List.getD_cons_zero, List.getD_cons_succ, List.getD_nil, q_hi, hiS, true_and, and_true]
    by_cases hb : b < 0
    · rw [if_pos hb, if_pos hb, if_neg (by decide)]
    · rw [if_neg hb, if_neg hb, if_pos rfl]
def spanQ : List BE := lms (.var 0) (-1099511627776) 1099511627776 ++ lms (.var 1) (-1099511627776) 1099511627776 ++ [.cmp .leq (.var 0) (.var 1)] ++ lms (.var 2) (-1099511627776) 1099511627776 ++ lms (.var 3) (-1099511627776) 1099511627776 ++ [.cmp .leq (.var 2) (.var 3)]
def insS : FC := ⟨23, [(true, [some .i64, some .i64]), (true, [some .i64, some .i64])], .bool (.and (.cmp .leq (.var 2) (.var 0)) (.cmp .leq (.var 1) (.var 3))), spanQ, [], []⟩
theorem insS_ok : insS.OK Try.prog sfn := by
  refine FC_weak insideFC_ok rfl rfl rfl fun r hr hpre => ?_
  obtain ⟨xs0, r0, rfl, hw0, _, xs1, r1, rfl, hw1, _, er⟩ := hr
  obtain ⟨a, b, rfl⟩ := wl2 hw0
  obtain ⟨c, d, rfl⟩ := wl2 hw1
  rw [show r1 = [] from er] at hpre ⊢
  simp only [insS, spanQ, lms, List.mem_append, List.mem_cons, List.not_mem_nil, or_false, forall_eq_or_imp, forall_eq, or_imp, forall_and, den_lit, den_var, den_ite, den_cmp, den_cmpB, den_tst, den_tstF, den_negT, den_negF, den_andT, den_andF, lssT, leqT, gtrT, geqT, eqlT, neqT, lssF, leqF, gtrF, geqF, eqlF, neqF, den_app, den_nilL, den_consL, den_add, den_sub, den_mul, den_tdiv, den_tmod, den_mx, den_mn, env_v, env_f, List.flatten_cons, List.flatten_nil, List.append_nil, List.cons_append, List.nil_append, List.getD_cons_zero, List.getD_cons_succ, List.getD_nil] at hpre
  refine ⟨by simp [insideFC], by simp [insS], by simp [insS], ?_⟩
  have hv : allV [(a, b), (c, d)] = true := all2 (QM.vld_iff.2 (by omega)) (QM.vld_iff.2 (by omega))
  simp only [insideFC, insideV, insS, SV.eqv]
  rw [tst_bI (b := insideB a b c d) (by simp only [den_lit, den_var, den_ite, den_cmp, den_cmpB, den_tst, den_tstF, den_negT, den_negF, den_andT, den_andF, lssT, leqT, gtrT, geqT, eqlT, neqT, lssF, leqF, gtrF, geqF, eqlF, neqF, den_app, den_nilL, den_consL, den_add, den_sub, den_mul, den_tdiv, den_tmod, den_mx, den_mn, env_v, env_f, List.flatten_cons, List.flatten_nil, List.append_nil, List.cons_append, List.nil_append, List.getD_cons_zero, List.getD_cons_succ, List.getD_nil, q_ins])]
  unfold insideB
  rw [hv, Bool.eq_iff_iff]
  simp only [den_lit, den_var, den_ite, den_cmp, den_cmpB, den_tst, den_tstF, den_negT, den_negF, den_andT, den_andF, lssT, leqT, gtrT, geqT, eqlT, neqT, lssF, leqF, gtrF, geqF, eqlF, neqF, den_app, den_nilL, den_consL, den_add, den_sub, den_mul, den_tdiv, den_tmod, den_mx, den_mn, env_v, env_f, List.flatten_cons, List.flatten_nil, List.append_nil, List.cons_append, List.nil_append, List.getD_cons_zero, List.getD_cons_succ, List.getD_nil, Bool.and_eq_true, decide_eq_true_eq, true_and]
  omega
def worksF : FC := ⟨21, [], .bool (.lit true), [], [], []⟩
theorem worksF_ok : worksF.OK Try.prog sfn := by
  refine FC.ok_eqv (X := joinPar) (d := 1) (n := 100000) (t := .leaf (.bool (.lit true))) mixedS (joinS_ok sfn) rfl (by kernel_rfl) (by kernel_rfl) fun r hw _ => ⟨by simp [worksF], by simp [worksF], ?_⟩
  exact rfl
def parS : Par := spanS.par (insS.par (worksF.par (addS.par (subS.par (hullS.par (meetS.par (mulS.par (divS.par (scaleS.par (squareS.par (clipS.par (growS.par joinPar))))))))))))
theorem parS_ok : ParOK Try.prog sfn parS := FC.parOK spanS_ok rfl (FC.parOK insS_ok rfl (FC.parOK worksF_ok rfl (FC.parOK addS_ok rfl (FC.parOK subS_ok rfl (FC.parOK hullS_ok rfl (FC.parOK meetS_ok rfl (FC.parOK mulS_ok rfl (FC.parOK divS_ok rfl (FC.parOK scaleS_ok rfl (FC.parOK squareS_ok rfl (FC.parOK clipS_ok rfl (FC.parOK growS_ok rfl (joinS_ok sfn)))))))))))))
def parT : Par := { parS with jc := fun f => f != 67 && f != 8, jr := fun f => f != 8 }
theorem parT_ok : ParOK Try.prog sfn parT := ⟨parS_ok.book, parS_ok.loops⟩
end Go.Proofs.Ytlaalhbicblbeaa
