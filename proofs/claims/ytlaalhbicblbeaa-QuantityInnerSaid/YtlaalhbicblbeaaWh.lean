/- Plain arithmetic: a product, divided bit by bit (no program in sight). -/
import Derived.Test.YtlaalhbicblbeaaQm
namespace Go.Proofs.Ytlaalhbicblbeaa.QM

/-- the reference's bits: j bits of n are still to come. -/
def Wh (x n d : Int) (j : Nat) (q r : Int) : Prop := q * d + r = x * (n / 2 ^ j) ∧ 0 ≤ r ∧ r < d ∧ 0 ≤ q ∧ q ≤ 288230376151711744

theorem wh_start {x n d : Int} (hn0 : 0 ≤ n) (hn : n ≤ 9000000000000) (hd : 1 ≤ d) : Wh x n d 44 0 0 := by
  have h : n / 2 ^ 44 = 0 := Int.ediv_eq_zero_of_lt hn0 (by omega)
  refine ⟨?_, by omega, by omega, by omega, by omega⟩
  rw [h]; simp

theorem half (n : Int) (j : Nat) : n / 2 ^ j = 2 * (n / 2 ^ (j + 1)) + n / 2 ^ j % 2 := by
  have h : n / 2 ^ (j + 1) = n / 2 ^ j / 2 := by
    rw [Int.pow_succ, Int.ediv_ediv_of_nonneg (Int.le_of_lt (Int.pow_pos (by decide)))]
  rw [h]; omega

theorem wh_sum1 {x n d q r q' r' k : Int} {j : Nat} (h : Wh x n d (j + 1) q r) (b : n / 2 ^ j % 2 = 1) (hq : q' = 2 * q + x / d + k) (hr : r' = 2 * r + x % d - k * d) :
    q' * d + r' = x * (n / 2 ^ j) := by
  have e := half n j
  have e1 := Int.mul_ediv_add_emod x d
  rw [b] at e
  rw [e, hq, hr, Int.mul_add, Int.mul_one, Int.add_mul, Int.add_mul, Int.mul_assoc 2 q d, ← Int.mul_assoc x 2, Int.mul_comm x 2, Int.mul_assoc 2 x, ← h.1]
  rw [Int.mul_comm d] at e1
  generalize x / d * d = p at *
  generalize q * d = s at *
  generalize k * d = t at *
  omega

theorem wh_sum0 {x n d q r q' r' k : Int} {j : Nat} (h : Wh x n d (j + 1) q r) (b : n / 2 ^ j % 2 = 0) (hq : q' = 2 * q + k) (hr : r' = 2 * r - k * d) :
    q' * d + r' = x * (n / 2 ^ j) := by
  have e := half n j
  rw [b] at e
  rw [e, hq, hr, Int.add_zero, Int.add_mul, Int.mul_assoc 2 q d, ← Int.mul_assoc x 2, Int.mul_comm x 2, Int.mul_assoc 2 x, ← h.1]
  generalize q * d = s at *
  generalize k * d = t at *
  omega

/-- what 'whole' returns -/
def wq (x n d : Int) : Int := if 288230376151711744 < x * n / d then 1152921504606846976 else x * n / d
def wr (x n d : Int) : Int := if 288230376151711744 < x * n / d then 0 else x * n % d

theorem wh_end {x n d q r : Int} (hd : 1 ≤ d) (h : Wh x n d 0 q r) : wq x n d = q ∧ wr x n d = r := by
  obtain ⟨h1, h2, h3, h4, h5⟩ := h
  rw [Int.pow_zero, Int.ediv_one] at h1
  have e : x * n / d = q := by
    rw [← h1, Int.mul_comm, Int.add_comm, Int.add_mul_ediv_left _ _ (by omega), Int.ediv_eq_zero_of_lt h2 h3, Int.zero_add]
  have e2 : x * n % d = r := by
    rw [← h1, Int.mul_comm, Int.add_comm, Int.add_mul_emod_self_left, Int.emod_eq_of_lt h2 h3]
  unfold wq wr
  rw [e, e2, if_neg (by omega), if_neg (by omega)]
  exact ⟨rfl, rfl⟩

theorem wh_big {x n d q r : Int} {j : Nat} (hx : 0 ≤ x) (hn : 0 ≤ n) (hd : 1 ≤ d) (h : q * d + r = x * (n / 2 ^ j)) (hr : 0 ≤ r) (hq : 288230376151711744 < q) :
    wq x n d = 1152921504606846976 ∧ wr x n d = 0 := by
  have h1 : x * (n / 2 ^ j) ≤ x * n := Int.mul_le_mul_of_nonneg_left (Int.ediv_le_self _ hn) hx
  have h2 : q ≤ x * n / d := by
    rw [Int.le_ediv_iff_mul_le (by omega)]
    omega
  unfold wq wr
  rw [if_pos (by omega), if_pos (by omega)]
  exact ⟨rfl, rfl⟩

/-- 'Down' and 'Up' -/
def dn (x n d : Int) : Int :=
  if (decide (decide (x < 0) ≠ decide (n < 0)) != decide (d < 0)) = false then wq x.natAbs n.natAbs d.natAbs
  else if 0 < wr x.natAbs n.natAbs d.natAbs then -(wq x.natAbs n.natAbs d.natAbs + 1) else -(wq x.natAbs n.natAbs d.natAbs)

theorem wq_bd {x n d : Int} (hx : 0 ≤ x) (hn : 0 ≤ n) (hd : 1 ≤ d) : 0 ≤ wq x n d ∧ wq x n d ≤ 1152921504606846976 := by
  have h0 : 0 ≤ x * n / d := Int.ediv_nonneg (Int.mul_nonneg hx hn) (by omega)
  unfold wq; split <;> omega
theorem wr_bd {x n d : Int} (hd : 1 ≤ d) : 0 ≤ wr x n d ∧ wr x n d < d := by
  have h1 := Int.emod_nonneg (x * n) (show d ≠ 0 by omega)
  have h2 := Int.emod_lt_of_pos (x * n) (show 0 < d by omega)
  unfold wr; split <;> omega

theorem wq_nat (a b d : Int) : ((a.natAbs : Nat) : Int) * ((b.natAbs : Nat) : Int) / ((d.natAbs : Nat) : Int) = (qN a b d : Int) := by
  unfold qN
  rw [Int.natCast_ediv, Int.natCast_mul]
theorem wr_nat (a b d : Int) : ((a.natAbs : Nat) : Int) * ((b.natAbs : Nat) : Int) % ((d.natAbs : Nat) : Int) = (rN a b d : Int) := by
  unfold rN
  rw [Int.natCast_emod, Int.natCast_mul]

theorem dn_cl {x n d : Int} (hd : 0 < d) : Cl (dn x n d) (fl x n d) := by
  unfold dn wq wr
  rw [wq_nat, wr_nat]
  have hd' : decide (d < 0) = false := by simp; omega
  rw [hd']
  by_cases h : decide (x < 0) = decide (n < 0)
  · rw [if_pos (by simp [h]), fl_pos hd h]
    unfold Cl; split <;> omega
  · rw [if_neg (by simp [h]), fl_neg hd h]
    unfold Cl; split <;> split <;> split <;> omega

end Go.Proofs.Ytlaalhbicblbeaa.QM
