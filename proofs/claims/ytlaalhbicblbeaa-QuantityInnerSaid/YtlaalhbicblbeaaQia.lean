/- Floors and ceilings of products and quotients over spans that lie in others. Plain mathematics. -/
import Derived.Test.YtlaalhbicblbeaaSy1
namespace Go.Proofs.Ytlaalhbicblbeaa.QI
open Go.SX (box_mul)

def fl (p k : Int) : Int := p / k
def ce (p k : Int) : Int := -((-p) / k)
theorem fl_mono {p q k : Int} (hk : 1 ≤ k) (h : p ≤ q) : fl p k ≤ fl q k := Int.ediv_le_ediv (by omega) h
theorem ce_mono {p q k : Int} (hk : 1 ≤ k) (h : p ≤ q) : ce p k ≤ ce q k := by
  have := Int.ediv_le_ediv (a := -q) (b := -p) (c := k) (by omega) (by omega)
  unfold ce; omega
theorem fl_mul {p k : Int} (hk : 1 ≤ k) : fl p k * k ≤ p ∧ p < (fl p k + 1) * k := by
  unfold fl
  have h1 := Int.mul_ediv_add_emod p k
  have h2 := Int.emod_nonneg p (b := k) (by omega)
  have h3 := Int.emod_lt_of_pos p (b := k) (by omega)
  rw [Int.add_mul, Int.one_mul, Int.mul_comm (p / k) k]
  omega
theorem ce_mul {p k : Int} (hk : 1 ≤ k) : (ce p k - 1) * k < p ∧ p ≤ ce p k * k := by
  have h := fl_mul (p := -p) hk
  unfold ce
  unfold fl at h
  rw [Int.add_mul, Int.one_mul] at h
  rw [Int.sub_mul, Int.one_mul, Int.neg_mul]
  omega
theorem fl_le_ce {p k : Int} (hk : 1 ≤ k) : fl p k ≤ ce p k := by
  have h1 := fl_mul (p := p) hk
  have h2 := ce_mul (p := p) hk
  refine Int.not_lt.1 fun h => ?_
  have := Int.mul_le_mul_of_nonneg_right (show ce p k ≤ fl p k - 1 by omega) (show 0 ≤ k by omega)
  rw [Int.sub_mul, Int.one_mul] at this
  omega
/-- quotients of what lies between -/
theorem fl_bd {p k L H : Int} (hk : 1 ≤ k) (h1 : L ≤ p) (h2 : p ≤ H) (hL : L ≤ 0) (hH : 0 ≤ H) : L ≤ fl p k ∧ fl p k ≤ H := by
  unfold fl
  constructor
  · rw [Int.le_ediv_iff_mul_le (by omega)]
    have := Int.mul_le_mul_of_nonpos_left hL hk
    omega
  · have e1 : p / k ≤ H / k := Int.ediv_le_ediv (by omega) h2
    have e2 : H / k ≤ H := Int.ediv_le_self _ hH
    omega
theorem ce_bd {p k L H : Int} (hk : 1 ≤ k) (h1 : L ≤ p) (h2 : p ≤ H) (hL : L ≤ 0) (hH : 0 ≤ H) : L ≤ ce p k ∧ ce p k ≤ H := by
  have := fl_bd (p := -p) (L := -H) (H := -L) hk (by omega) (by omega) (by omega) (by omega)
  unfold ce; unfold fl at this; omega
theorem box_fl {a b c d x y k : Int} (h1 : a ≤ x) (h2 : x ≤ b) (h3 : c ≤ y) (h4 : y ≤ d) (hk : 1 ≤ k) :
    min (min (fl (a * c) k) (fl (a * d) k)) (min (fl (b * c) k) (fl (b * d) k)) ≤ fl (x * y) k := by
  have h := (box_mul h1 h2 h3 h4).1
  have m1 : a * c ≤ x * y → fl (a * c) k ≤ fl (x * y) k := fl_mono hk
  have m2 : a * d ≤ x * y → fl (a * d) k ≤ fl (x * y) k := fl_mono hk
  have m3 : b * c ≤ x * y → fl (b * c) k ≤ fl (x * y) k := fl_mono hk
  have m4 : b * d ≤ x * y → fl (b * d) k ≤ fl (x * y) k := fl_mono hk
  omega
theorem box_ce {a b c d x y k : Int} (h1 : a ≤ x) (h2 : x ≤ b) (h3 : c ≤ y) (h4 : y ≤ d) (hk : 1 ≤ k) :
    ce (x * y) k ≤ max (max (ce (a * c) k) (ce (a * d) k)) (max (ce (b * c) k) (ce (b * d) k)) := by
  have h := (box_mul h1 h2 h3 h4).2
  have m1 : x * y ≤ a * c → ce (x * y) k ≤ ce (a * c) k := ce_mono hk
  have m2 : x * y ≤ a * d → ce (x * y) k ≤ ce (a * d) k := ce_mono hk
  have m3 : x * y ≤ b * c → ce (x * y) k ≤ ce (b * c) k := ce_mono hk
  have m4 : x * y ≤ b * d → ce (x * y) k ≤ ce (b * d) k := ce_mono hk
  omega
/-- a quotient lies between those by the ends of the divisor -/
theorem quot_fl {X b c y : Int} (hb : 1 ≤ b) (h1 : b ≤ y) (h2 : y ≤ c) : min (fl X b) (fl X c) ≤ fl X y := by
  by_cases hX : 0 ≤ X
  · have : fl X c ≤ fl X y := by
      unfold fl
      rw [Int.le_ediv_iff_mul_le (by omega)]
      have g := (fl_mul (p := X) (k := c) (by omega)).1
      have g0 : 0 ≤ X / c := Int.ediv_nonneg hX (by omega)
      have := Int.mul_le_mul_of_nonneg_left h2 g0
      unfold fl at g
      omega
    omega
  · have : fl X b ≤ fl X y := by
      unfold fl
      rw [Int.le_ediv_iff_mul_le (by omega)]
      have g := (fl_mul (p := X) (k := b) (by omega)).1
      have g0 : X / b ≤ 0 := by
        have := Int.ediv_le_ediv (a := X) (b := 0) (c := b) (by omega) (by omega)
        rw [Int.zero_ediv] at this
        omega
      have := Int.mul_le_mul_of_nonpos_left g0 h1
      unfold fl at g
      omega
    omega
theorem quot_ce {X b c y : Int} (hb : 1 ≤ b) (h1 : b ≤ y) (h2 : y ≤ c) : ce X y ≤ max (ce X b) (ce X c) := by
  have := quot_fl (X := -X) hb h1 h2
  unfold ce; unfold fl at this; omega
/-- quotients over a box of divisors above 0 -/
theorem boxq_fl {a b n c d x y : Int} (h1 : a ≤ x) (h2 : x ≤ b) (hc : 1 ≤ c) (h3 : c ≤ y) (h4 : y ≤ d) :
    min (min (fl (a * n) c) (fl (a * n) d)) (min (fl (b * n) c) (fl (b * n) d)) ≤ fl (x * n) y := by
  have q := quot_fl (X := x * n) hc h3 h4
  have p1 := box_fl (k := c) h1 h2 (Int.le_refl n) (Int.le_refl n) hc
  have p2 := box_fl (k := d) h1 h2 (Int.le_refl n) (Int.le_refl n) (by omega)
  omega
theorem boxq_ce {a b n c d x y : Int} (h1 : a ≤ x) (h2 : x ≤ b) (hc : 1 ≤ c) (h3 : c ≤ y) (h4 : y ≤ d) :
    ce (x * n) y ≤ max (max (ce (a * n) c) (ce (a * n) d)) (max (ce (b * n) c) (ce (b * n) d)) := by
  have q := quot_ce (X := x * n) hc h3 h4
  have p1 := box_ce (k := c) h1 h2 (Int.le_refl n) (Int.le_refl n) hc
  have p2 := box_ce (k := d) h1 h2 (Int.le_refl n) (Int.le_refl n) (by omega)
  omega
/-- a square is at least that of the nearer end, at most that of an end -/
theorem sq_bd {a b x : Int} (h1 : a ≤ x) (h2 : x ≤ b) : x * x ≤ max (a * a) (b * b) ∧ (¬ (a ≤ 0 ∧ 0 ≤ b) → min (a * a) (b * b) ≤ x * x) ∧ 0 ≤ x * x := by
  refine ⟨?_, ?_, ?_⟩
  · by_cases h : 0 ≤ x
    · have := Int.mul_le_mul h2 h2 h (by omega)
      omega
    · have : (-x) * (-x) ≤ (-a) * (-a) := Int.mul_le_mul (by omega) (by omega) (by omega) (by omega)
      rw [Int.neg_mul_neg, Int.neg_mul_neg] at this
      omega
  · intro h
    by_cases h0 : 0 < a
    · have := Int.mul_le_mul h1 h1 (by omega) (by omega)
      omega
    · have hb : b < 0 := by omega
      have : (-b) * (-b) ≤ (-x) * (-x) := Int.mul_le_mul (by omega) (by omega) (by omega) (by omega)
      rw [Int.neg_mul_neg, Int.neg_mul_neg] at this
      omega
  · by_cases h : 0 ≤ x
    · exact Int.mul_nonneg h h
    · have := Int.mul_nonneg (show 0 ≤ -x by omega) (show 0 ≤ -x by omega)
      rw [Int.neg_mul_neg] at this
      exact this
theorem fl_zero (k : Int) : fl 0 k = 0 := by unfold fl; exact Int.zero_ediv k
theorem ce_zero (k : Int) : ce 0 k = 0 := by unfold ce; rw [Int.neg_zero, Int.zero_ediv]; rfl
theorem fl_nonneg {p k : Int} (hk : 1 ≤ k) (h : 0 ≤ p) : 0 ≤ fl p k := by unfold fl; exact Int.ediv_nonneg h (by omega)
theorem ce_nonneg {p k : Int} (hk : 1 ≤ k) (h : 0 ≤ p) : 0 ≤ ce p k := by have := fl_nonneg hk h; have := fl_le_ce (p := p) hk; omega
end Go.Proofs.Ytlaalhbicblbeaa.QI

/- The results over spans that lie in others lie in the results over those. Plain mathematics. -/
namespace Go.Proofs.Ytlaalhbicblbeaa.QI

def scL (a b n k : Int) : Int := min (fl (a * n) k) (fl (b * n) k)
def scH (a b n k : Int) : Int := max (ce (a * n) k) (ce (b * n) k)
def muL (a b c d k : Int) : Int := min (min (min (fl (a * c) k) (fl (a * d) k)) (fl (b * c) k)) (fl (b * d) k)
def muH (a b c d k : Int) : Int := max (max (max (ce (a * c) k) (ce (a * d) k)) (ce (b * c) k)) (ce (b * d) k)
def quL (a b c d n : Int) : Int := min (min (min (fl (a * n) c) (fl (a * n) d)) (fl (b * n) c)) (fl (b * n) d)
def quH (a b c d n : Int) : Int := max (max (max (ce (a * n) c) (ce (a * n) d)) (ce (b * n) c)) (ce (b * n) d)
def sqL (a b k : Int) : Int := if a ≤ 0 ∧ 0 ≤ b then min (min 0 (fl (a * a) k)) (fl (b * b) k) else min (fl (a * a) k) (fl (b * b) k)
def sqH (a b k : Int) : Int := if a ≤ 0 ∧ 0 ≤ b then max (max 0 (ce (a * a) k)) (ce (b * b) k) else max (ce (a * a) k) (ce (b * b) k)

section
variable {a b c d a' b' c' d' n k : Int} (h1 : a' ≤ a) (h2 : a ≤ b) (h3 : b ≤ b') (h4 : c' ≤ c) (h5 : c ≤ d) (h6 : d ≤ d')
include h1 h2 h3

theorem sc_in (hk : 1 ≤ k) : scL a' b' n k ≤ scL a b n k ∧ scL a b n k ≤ scH a b n k ∧ scH a b n k ≤ scH a' b' n k := by
  have x1 := box_fl (x := a) (y := n) (k := k) h1 (show a ≤ b' by omega) (Int.le_refl n) (Int.le_refl n) hk
  have x2 := box_fl (x := b) (y := n) (k := k) (show a' ≤ b by omega) h3 (Int.le_refl n) (Int.le_refl n) hk
  have y1 := box_ce (x := a) (y := n) (k := k) h1 (show a ≤ b' by omega) (Int.le_refl n) (Int.le_refl n) hk
  have y2 := box_ce (x := b) (y := n) (k := k) (show a' ≤ b by omega) h3 (Int.le_refl n) (Int.le_refl n) hk
  have z := fl_le_ce (p := a * n) hk
  unfold scL scH
  omega
theorem sq_in (hk : 1 ≤ k) : sqL a' b' k ≤ sqL a b k ∧ sqL a b k ≤ sqH a b k ∧ sqH a b k ≤ sqH a' b' k := by
  obtain ⟨p1, p2, p3⟩ := sq_bd (x := a) h1 (show a ≤ b' by omega)
  obtain ⟨q1, q2, q3⟩ := sq_bd (x := b) (show a' ≤ b by omega) h3
  have n1 := fl_nonneg hk p3
  have n2 := fl_nonneg hk q3
  have n3 := ce_nonneg hk p3
  have n4 := ce_nonneg hk q3
  have n5 := fl_nonneg hk (sq_bd (Int.le_refl a') (show a' ≤ b' by omega)).2.2
  have n6 := fl_nonneg hk (sq_bd (x := b') (show a' ≤ b' by omega) (Int.le_refl b')).2.2
  have n7 := ce_nonneg hk (sq_bd (Int.le_refl a') (show a' ≤ b' by omega)).2.2
  have n8 := ce_nonneg hk (sq_bd (x := b') (show a' ≤ b' by omega) (Int.le_refl b')).2.2
  have z1 := fl_le_ce (p := a * a) hk
  have m1 : a * a ≤ a' * a' → ce (a * a) k ≤ ce (a' * a') k := ce_mono hk
  have m2 : a * a ≤ b' * b' → ce (a * a) k ≤ ce (b' * b') k := ce_mono hk
  have m3 : b * b ≤ a' * a' → ce (b * b) k ≤ ce (a' * a') k := ce_mono hk
  have m4 : b * b ≤ b' * b' → ce (b * b) k ≤ ce (b' * b') k := ce_mono hk
  have m5 : a' * a' ≤ a * a → fl (a' * a') k ≤ fl (a * a) k := fl_mono hk
  have m6 : b' * b' ≤ a * a → fl (b' * b') k ≤ fl (a * a) k := fl_mono hk
  have m7 : a' * a' ≤ b * b → fl (a' * a') k ≤ fl (b * b) k := fl_mono hk
  have m8 : b' * b' ≤ b * b → fl (b' * b') k ≤ fl (b * b) k := fl_mono hk
  unfold sqL sqH
  generalize fl (a * a) k = A1 at *
  generalize fl (b * b) k = A2 at *
  generalize fl (a' * a') k = A3 at *
  generalize fl (b' * b') k = A4 at *
  generalize ce (a * a) k = B1 at *
  generalize ce (b * b) k = B2 at *
  generalize ce (a' * a') k = B3 at *
  generalize ce (b' * b') k = B4 at *
  generalize a * a = C1 at *
  generalize b * b = C2 at *
  generalize a' * a' = C3 at *
  generalize b' * b' = C4 at *
  split <;> split <;> omega
include h4 h5 h6
theorem mu_in (hk : 1 ≤ k) : muL a' b' c' d' k ≤ muL a b c d k ∧ muL a b c d k ≤ muH a b c d k ∧ muH a b c d k ≤ muH a' b' c' d' k := by
  have x1 := box_fl (x := a) (y := c) (k := k) h1 (show a ≤ b' by omega) h4 (show c ≤ d' by omega) hk
  have x2 := box_fl (x := a) (y := d) (k := k) h1 (show a ≤ b' by omega) (show c' ≤ d by omega) h6 hk
  have x3 := box_fl (x := b) (y := c) (k := k) (show a' ≤ b by omega) h3 h4 (show c ≤ d' by omega) hk
  have x4 := box_fl (x := b) (y := d) (k := k) (show a' ≤ b by omega) h3 (show c' ≤ d by omega) h6 hk
  have y1 := box_ce (x := a) (y := c) (k := k) h1 (show a ≤ b' by omega) h4 (show c ≤ d' by omega) hk
  have y2 := box_ce (x := a) (y := d) (k := k) h1 (show a ≤ b' by omega) (show c' ≤ d by omega) h6 hk
  have y3 := box_ce (x := b) (y := c) (k := k) (show a' ≤ b by omega) h3 h4 (show c ≤ d' by omega) hk
  have y4 := box_ce (x := b) (y := d) (k := k) (show a' ≤ b by omega) h3 (show c' ≤ d by omega) h6 hk
  have z := fl_le_ce (p := a * c) hk
  unfold muL muH
  omega
theorem qu_in (hc : 1 ≤ c') : quL a' b' c' d' n ≤ quL a b c d n ∧ quL a b c d n ≤ quH a b c d n ∧ quH a b c d n ≤ quH a' b' c' d' n := by
  have x1 := boxq_fl (x := a) (y := c) (n := n) h1 (show a ≤ b' by omega) hc h4 (show c ≤ d' by omega)
  have x2 := boxq_fl (x := a) (y := d) (n := n) h1 (show a ≤ b' by omega) hc (show c' ≤ d by omega) h6
  have x3 := boxq_fl (x := b) (y := c) (n := n) (show a' ≤ b by omega) h3 hc h4 (show c ≤ d' by omega)
  have x4 := boxq_fl (x := b) (y := d) (n := n) (show a' ≤ b by omega) h3 hc (show c' ≤ d by omega) h6
  have y1 := boxq_ce (x := a) (y := c) (n := n) h1 (show a ≤ b' by omega) hc h4 (show c ≤ d' by omega)
  have y2 := boxq_ce (x := a) (y := d) (n := n) h1 (show a ≤ b' by omega) hc (show c' ≤ d by omega) h6
  have y3 := boxq_ce (x := b) (y := c) (n := n) (show a' ≤ b by omega) h3 hc h4 (show c ≤ d' by omega)
  have y4 := boxq_ce (x := b) (y := d) (n := n) (show a' ≤ b by omega) h3 hc (show c' ≤ d by omega) h6
  have z := fl_le_ce (p := a * n) (k := c) (by omega)
  unfold quL quH
  omega
end
def dvL (a b c d n : Int) : Int := if c ≤ 0 ∧ 0 ≤ d then 0 else if d < 0 then quL (-b) (-a) (-d) (-c) n else quL a b c d n
def dvH (a b c d n : Int) : Int := if c ≤ 0 ∧ 0 ≤ d then 0 else if d < 0 then quH (-b) (-a) (-d) (-c) n else quH a b c d n
def dvE (c d : Int) : Int := if c ≤ 0 ∧ 0 ≤ d then 9 else 0
theorem dv_in {a b c d a' b' c' d' n : Int} (h1 : a' ≤ a) (h2 : a ≤ b) (h3 : b ≤ b') (h4 : c' ≤ c) (h5 : c ≤ d) (h6 : d ≤ d') (h : dvE c' d' = 0) :
    dvE c d = 0 ∧ dvL a' b' c' d' n ≤ dvL a b c d n ∧ dvH a b c d n ≤ dvH a' b' c' d' n := by
  have hz : ¬ (c' ≤ 0 ∧ 0 ≤ d') := by intro hz; unfold dvE at h; rw [if_pos hz] at h; cases h
  have hz2 : ¬ (c ≤ 0 ∧ 0 ≤ d) := by omega
  refine ⟨by unfold dvE; rw [if_neg hz2], ?_⟩
  unfold dvL dvH
  rw [if_neg hz, if_neg hz, if_neg hz2, if_neg hz2]
  by_cases hd : d' < 0
  · rw [if_pos hd, if_pos hd, if_pos (show d < 0 by omega), if_pos (show d < 0 by omega)]
    have := qu_in (n := n) (show -b' ≤ -b by omega) (show -b ≤ -a by omega) (show -a ≤ -a' by omega) (show -d' ≤ -d by omega) (show -d ≤ -c by omega) (show -c ≤ -c' by omega) (by omega)
    exact ⟨this.1, this.2.2⟩
  · rw [if_neg hd, if_neg hd, if_neg (show ¬ d < 0 by omega), if_neg (show ¬ d < 0 by omega)]
    have := qu_in (n := n) h1 h2 h3 h4 h5 h6 (by omega)
    exact ⟨this.1, this.2.2⟩
/-- one fraction of several: the least floor, the greatest ceiling -/
theorem le_part {p k L : Int} (hk : 1 ≤ k) (h : L ≤ fl p k) : L * k ≤ p := by
  have := Int.mul_le_mul_of_nonneg_right h (show 0 ≤ k by omega)
  have := (fl_mul (p := p) hk).1
  omega
theorem ge_part {p k H : Int} (hk : 1 ≤ k) (h : ce p k ≤ H) : p ≤ H * k := by
  have := Int.mul_le_mul_of_nonneg_right h (show 0 ≤ k by omega)
  have := (ce_mul (p := p) hk).2
  omega
theorem lt_part {p k L : Int} (hk : 1 ≤ k) (h : L = fl p k) : p < (L + 1) * k := by rw [h]; exact (fl_mul hk).2
theorem gt_part {p k H : Int} (hk : 1 ≤ k) (h : H = ce p k) : (H - 1) * k < p := by rw [h]; exact (ce_mul hk).1
/-- four fractions -/
theorem near4 {p1 p2 p3 p4 k1 k2 k3 k4 L H : Int} (h1 : 1 ≤ k1) (h2 : 1 ≤ k2) (h3 : 1 ≤ k3) (h4 : 1 ≤ k4)
    (hL : L = min (min (min (fl p1 k1) (fl p2 k2)) (fl p3 k3)) (fl p4 k4)) (hH : H = max (max (max (ce p1 k1) (ce p2 k2)) (ce p3 k3)) (ce p4 k4)) :
    (L * k1 ≤ p1 ∧ p1 ≤ H * k1) ∧ (L * k2 ≤ p2 ∧ p2 ≤ H * k2) ∧ (L * k3 ≤ p3 ∧ p3 ≤ H * k3) ∧ (L * k4 ≤ p4 ∧ p4 ≤ H * k4) ∧
    (p1 < (L + 1) * k1 ∨ p2 < (L + 1) * k2 ∨ p3 < (L + 1) * k3 ∨ p4 < (L + 1) * k4) ∧ ((H - 1) * k1 < p1 ∨ (H - 1) * k2 < p2 ∨ (H - 1) * k3 < p3 ∨ (H - 1) * k4 < p4) := by
  refine ⟨⟨le_part h1 (by omega), ge_part h1 (by omega)⟩, ⟨le_part h2 (by omega), ge_part h2 (by omega)⟩, ⟨le_part h3 (by omega), ge_part h3 (by omega)⟩, ⟨le_part h4 (by omega), ge_part h4 (by omega)⟩, ?_, ?_⟩
  · have : L = fl p1 k1 ∨ L = fl p2 k2 ∨ L = fl p3 k3 ∨ L = fl p4 k4 := by omega
    rcases this with e | e | e | e
    · exact .inl (lt_part h1 e)
    · exact .inr (.inl (lt_part h2 e))
    · exact .inr (.inr (.inl (lt_part h3 e)))
    · exact .inr (.inr (.inr (lt_part h4 e)))
  · have : H = ce p1 k1 ∨ H = ce p2 k2 ∨ H = ce p3 k3 ∨ H = ce p4 k4 := by omega
    rcases this with e | e | e | e
    · exact .inl (gt_part h1 e)
    · exact .inr (.inl (gt_part h2 e))
    · exact .inr (.inr (.inl (gt_part h3 e)))
    · exact .inr (.inr (.inr (gt_part h4 e)))
theorem near_sq {a b k : Int} (hab : a ≤ b) (hk : 1 ≤ k) : (sqL a b k * k ≤ a * a ∧ a * a ≤ sqH a b k * k) ∧ (sqL a b k * k ≤ b * b ∧ b * b ≤ sqH a b k * k) ∧
    (sqL a b k * k ≤ min (max a 0) b * min (max a 0) b ∧ min (max a 0) b * min (max a 0) b ≤ sqH a b k * k) ∧
    (a * a < (sqL a b k + 1) * k ∨ b * b < (sqL a b k + 1) * k ∨ min (max a 0) b * min (max a 0) b < (sqL a b k + 1) * k) ∧
    ((sqH a b k - 1) * k < a * a ∨ (sqH a b k - 1) * k < b * b ∨ (sqH a b k - 1) * k < min (max a 0) b * min (max a 0) b) := by
  unfold sqL sqH
  by_cases hz : a ≤ 0 ∧ 0 ≤ b
  · rw [if_pos hz, if_pos hz, show min (max a 0) b = 0 by omega, show (0 : Int) * 0 = 0 from rfl]
    have z1 := fl_zero k
    have z2 := ce_zero k
    have := near4 (p1 := 0) (p2 := a * a) (p3 := b * b) (p4 := b * b) (k1 := k) (k2 := k) (k3 := k) (k4 := k) hk hk hk hk (L := min (min 0 (fl (a * a) k)) (fl (b * b) k)) (H := max (max 0 (ce (a * a) k)) (ce (b * b) k)) (by omega) (by omega)
    obtain ⟨q1, q2, q3, q4, q5, q6⟩ := this
    refine ⟨q2, q3, q1, ?_, ?_⟩
    · rcases q5 with h | h | h | h
      · exact .inr (.inr h)
      · exact .inl h
      · exact .inr (.inl h)
      · exact .inr (.inl h)
    · rcases q6 with h | h | h | h
      · exact .inr (.inr h)
      · exact .inl h
      · exact .inr (.inl h)
      · exact .inr (.inl h)
  · rw [if_neg hz, if_neg hz]
    have := near4 (p1 := a * a) (p2 := a * a) (p3 := b * b) (p4 := b * b) (k1 := k) (k2 := k) (k3 := k) (k4 := k) hk hk hk hk (L := min (fl (a * a) k) (fl (b * b) k)) (H := max (ce (a * a) k) (ce (b * b) k)) (by omega) (by omega)
    obtain ⟨q1, q2, q3, q4, q5, q6⟩ := this
    have hm : min (max a 0) b = a ∨ min (max a 0) b = b := by omega
    refine ⟨q1, q3, ?_, ?_, ?_⟩
    · rcases hm with e | e <;> rw [e]
      · exact q1
      · exact q3
    · rcases q5 with h | h | h | h
      · exact .inl h
      · exact .inl h
      · exact .inr (.inl h)
      · exact .inr (.inl h)
    · rcases q6 with h | h | h | h
      · exact .inl h
      · exact .inl h
      · exact .inr (.inl h)
      · exact .inr (.inl h)
end Go.Proofs.Ytlaalhbicblbeaa.QI
