/- Duties: what they have for a sum, how they differ; arguments taken apart. -/
import Derived.Test.YtmcnbgngojgfcaaDc
namespace Go.Proofs.Ytmcnbgngojgfcaa
open Go Go.SX Go.RowKit DR
set_option linter.unusedVariables false
set_option linter.unusedSimpArgs false
theorem flatS {w : World} {b : Bool} {ks : List (Option IntKind)} {p : PV} (h : p.ok w (.flat b ks)) : ∃ xs, p = .flat xs ∧ wfL ks xs := by
  cases p with
  | flat xs => exact ⟨xs, rfl, h.1⟩
  | row d v => exact h.elim
/-- a phase's share of 2 u in 65536 parts -/
theorem part_bd {n u : Int} (hu : 1 ≤ u) (h0 : 0 ≤ n) (h1 : n ≤ 2 * u) : 0 ≤ n * 65536 / (2 * u) ∧ n * 65536 / (2 * u) ≤ 65536 := by
  refine ⟨Int.ediv_nonneg (by omega) (by omega), ?_⟩
  have : n * 65536 / (2 * u) < 65537 := (Int.ediv_lt_iff_lt_mul (by omega)).2 (by omega)
  omega
theorem part_le {n k u : Int} (hu : 1 ≤ u) (h : n ≤ k) : n * 65536 / (2 * u) ≤ k * 65536 / (2 * u) := Int.ediv_le_ediv (by omega) (by omega)
theorem part_fl (n : Int) {u : Int} (hu : 1 ≤ u) : 2 * (u * (n * 65536 / (2 * u))) ≤ n * 65536 ∧ n * 65536 < 2 * (u * (n * 65536 / (2 * u))) + 2 * u := by
  have := fl_le (n * 65536) (d := 2 * u) (by omega)
  rwa [Int.mul_assoc] at this
theorem part_diff (n k : Int) {u : Int} (hu : 1 ≤ u) (d : Int) (hd : n - k = 2 * d) : -u < (n * 65536 / (2 * u) - k * 65536 / (2 * u)) * u - d * 65536 ∧ (n * 65536 / (2 * u) - k * 65536 / (2 * u)) * u - d * 65536 < u := by
  have e1 := part_fl n hu
  have e2 := part_fl k hu
  rw [Int.sub_mul, Int.mul_comm (n * 65536 / (2 * u)) u, Int.mul_comm (k * 65536 / (2 * u)) u]
  generalize u * (n * 65536 / (2 * u)) = A at *
  generalize u * (k * 65536 / (2 * u)) = B at *
  omega
theorem part_sum (n k : Int) {u : Int} (hu : 1 ≤ u) (hs : n + k = 2 * u) : n * 65536 / (2 * u) + k * 65536 / (2 * u) = 65536 ∨ n * 65536 / (2 * u) + k * 65536 / (2 * u) = 65535 := by
  have e1 := part_fl n hu
  have e2 := part_fl k hu
  generalize n * 65536 / (2 * u) = A at *
  generalize k * 65536 / (2 * u) = B at *
  have h1 : u * (A + B) ≤ u * 65536 := by rw [Int.mul_add]; omega
  have h2 : u * 65536 < u * (A + B + 2) := by rw [Int.mul_add, Int.mul_add]; omega
  have h3 := Int.le_of_mul_le_mul_left h1 (by omega)
  have h4 := Int.lt_of_mul_lt_mul_left h2 (by omega)
  omega
theorem dut_eq {x a b c u : Int} (hu : 1 ≤ u) (hw : wide a b c ≤ u) (h1 : min (min a b) c ≤ x) (h2 : x ≤ max (max a b) c) :
    dut x a b c u = (2 * x - max (max a b) c - min (min a b) c + u) * 65536 / (2 * u) := by
  unfold wide at hw
  have := part_bd (n := 2 * x - max (max a b) c - min (min a b) c + u) hu (by omega) (by omega)
  unfold dut br
  omega
theorem dut_sum {a b c u : Int} (hu : 1 ≤ u) (hw : wide a b c ≤ u) :
    max (max (dut a a b c u) (dut b a b c u)) (dut c a b c u) + min (min (dut a a b c u) (dut b a b c u)) (dut c a b c u) = 65536 ∨
    max (max (dut a a b c u) (dut b a b c u)) (dut c a b c u) + min (min (dut a a b c u) (dut b a b c u)) (dut c a b c u) = 65535 := by
  rw [dut_eq hu hw (by omega) (by omega), dut_eq hu hw (by omega) (by omega), dut_eq hu hw (by omega) (by omega)]
  generalize hM : max (max a b) c = M at *
  generalize hm : min (min a b) c = m at *
  have s := part_sum (2 * M - M - m + u) (2 * m - M - m + u) hu (by omega)
  have l1 := part_le (n := 2 * a - M - m + u) (k := 2 * M - M - m + u) hu (by omega)
  have l2 := part_le (n := 2 * b - M - m + u) (k := 2 * M - M - m + u) hu (by omega)
  have l3 := part_le (n := 2 * c - M - m + u) (k := 2 * M - M - m + u) hu (by omega)
  have g1 := part_le (n := 2 * m - M - m + u) (k := 2 * a - M - m + u) hu (by omega)
  have g2 := part_le (n := 2 * m - M - m + u) (k := 2 * b - M - m + u) hu (by omega)
  have g3 := part_le (n := 2 * m - M - m + u) (k := 2 * c - M - m + u) hu (by omega)
  have t : M = a ∨ M = b ∨ M = c := by omega
  have t' : m = a ∨ m = b ∨ m = c := by omega
  have k1 : (2 * a - M - m + u) * 65536 / (2 * u) = (2 * M - M - m + u) * 65536 / (2 * u) ∨ (2 * b - M - m + u) * 65536 / (2 * u) = (2 * M - M - m + u) * 65536 / (2 * u) ∨ (2 * c - M - m + u) * 65536 / (2 * u) = (2 * M - M - m + u) * 65536 / (2 * u) := by
    rcases t with e | e | e
    · exact .inl (by rw [← e])
    · exact .inr (.inl (by rw [← e]))
    · exact .inr (.inr (by rw [← e]))
  have k2 : (2 * a - M - m + u) * 65536 / (2 * u) = (2 * m - M - m + u) * 65536 / (2 * u) ∨ (2 * b - M - m + u) * 65536 / (2 * u) = (2 * m - M - m + u) * 65536 / (2 * u) ∨ (2 * c - M - m + u) * 65536 / (2 * u) = (2 * m - M - m + u) * 65536 / (2 * u) := by
    rcases t' with e | e | e
    · exact .inl (by rw [← e])
    · exact .inr (.inl (by rw [← e]))
    · exact .inr (.inr (by rw [← e]))
  generalize (2 * M - M - m + u) * 65536 / (2 * u) = DM at *
  generalize (2 * m - M - m + u) * 65536 / (2 * u) = Dm at *
  generalize (2 * a - M - m + u) * 65536 / (2 * u) = A at *
  generalize (2 * b - M - m + u) * 65536 / (2 * u) = B at *
  generalize (2 * c - M - m + u) * 65536 / (2 * u) = C at *
  clear hM hm t t'
  omega
theorem dut_diff {x y a b c u : Int} (hu : 1 ≤ u) (hw : wide a b c ≤ u) (h1 : min (min a b) c ≤ x) (h2 : x ≤ max (max a b) c) (h3 : min (min a b) c ≤ y) (h4 : y ≤ max (max a b) c) :
    -u < (dut x a b c u - dut y a b c u) * u - (x - y) * 65536 ∧ (dut x a b c u - dut y a b c u) * u - (x - y) * 65536 < u := by
  rw [dut_eq hu hw h1 h2, dut_eq hu hw h3 h4]
  exact part_diff _ _ hu (x - y) (by omega)
/-- cut phases are not wider than the bus voltage -/
theorem cut_wide {a b c u : Int} (hu : 1 ≤ u) (hw : u < wide a b c) : wide (a * u / wide a b c) (b * u / wide a b c) (c * u / wide a b c) ≤ u := by
  have key : ∀ x y : Int, x - y ≤ wide a b c → x * u / wide a b c - y * u / wide a b c ≤ u := by
    intro x y h
    have h1 : x * u ≤ y * u + wide a b c * u := by
      have := Int.mul_le_mul_of_nonneg_right (show x ≤ y + wide a b c by omega) (show 0 ≤ u by omega)
      rwa [Int.add_mul] at this
    have h2 := Int.ediv_le_ediv (c := wide a b c) (by omega) h1
    rw [Int.add_mul_ediv_left _ _ (by omega)] at h2
    omega
  have w1 : a - b ≤ wide a b c ∧ b - a ≤ wide a b c ∧ a - c ≤ wide a b c ∧ c - a ≤ wide a b c ∧ b - c ≤ wide a b c ∧ c - b ≤ wide a b c := by unfold wide; omega
  have e1 := key a b w1.1
  have e2 := key b a w1.2.1
  have e3 := key a c w1.2.2.1
  have e4 := key c a w1.2.2.2.1
  have e5 := key b c w1.2.2.2.2.1
  have e6 := key c b w1.2.2.2.2.2
  generalize a * u / wide a b c = A at *
  generalize b * u / wide a b c = B at *
  generalize c * u / wide a b c = C at *
  clear key w1 hw
  unfold wide
  omega
theorem dutV_sum {a b c u : Int} (hu : 1 ≤ u) :
    max (max (dutV a a b c u) (dutV b a b c u)) (dutV c a b c u) + min (min (dutV a a b c u) (dutV b a b c u)) (dutV c a b c u) = 65536 ∨
    max (max (dutV a a b c u) (dutV b a b c u)) (dutV c a b c u) + min (min (dutV a a b c u) (dutV b a b c u)) (dutV c a b c u) = 65535 := by
  unfold dutV
  by_cases h : wide a b c > u
  · simp only [if_pos h]
    exact dut_sum hu (cut_wide hu h)
  · simp only [if_neg h]
    exact dut_sum hu (by omega)
theorem dutV_diff {x y a b c u : Int} (hu : 1 ≤ u) (hw : ¬ wide a b c > u) (h1 : min (min a b) c ≤ x) (h2 : x ≤ max (max a b) c) (h3 : min (min a b) c ≤ y) (h4 : y ≤ max (max a b) c) :
    -u < (dutV x a b c u - dutV y a b c u) * u - (x - y) * 65536 ∧ (dutV x a b c u - dutV y a b c u) * u - (x - y) * 65536 < u := by
  unfold dutV
  simp only [if_neg hw]
  exact dut_diff hu (by omega) h1 h2 h3 h4
/-- a product of a difference of duties and a bus voltage is small -/
theorem prod_bd {x u : Int} (h0 : -65536 ≤ x) (h1 : x ≤ 65536) (hu : 1 ≤ u) (hu' : u ≤ 1073741824) : -70368744177664 ≤ x * u ∧ x * u ≤ 70368744177664 := by
  have := box_mul (x := x) (y := u) h0 h1 hu hu'
  omega
end Go.Proofs.Ytmcnbgngojgfcaa
