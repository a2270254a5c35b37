/- Sines, floors and numbers that are brought into a range. Plain mathematics. -/
import Derived.Test.YtmcnbgngojgfcaaSw30
namespace Go.Proofs.Ytmcnbgngojgfcaa.DR
open Go Go.SX
set_option linter.unusedVariables false
set_option linter.unusedSimpArgs false

/-- half a wave -/
def sinH (x : Int) : Int := (262144 * (x * (32768 - x))) / (5368709120 - 4 * (x * (32768 - x)))
def sineI (x : Int) : Int := if 32768 ≤ x then -sinH (x - 32768) else sinH x
/-- the number of a range that is next to x -/
def br (x lo hi : Int) : Int := max lo (min x hi)

theorem arc {x : Int} (h0 : 0 ≤ x) (h1 : x ≤ 32768) : 0 ≤ x * (32768 - x) ∧ x * (32768 - x) ≤ 268435456 := by
  refine ⟨Int.mul_nonneg h0 (by omega), ?_⟩
  have h2 : 0 ≤ (x - 16384) * (x - 16384) := by
    by_cases h : 0 ≤ x - 16384
    · exact Int.mul_nonneg h h
    · have := Int.mul_nonneg (show 0 ≤ -(x - 16384) by omega) (show 0 ≤ -(x - 16384) by omega)
      rwa [Int.neg_mul_neg] at this
  rw [Int.sub_mul, Int.mul_sub] at h2
  rw [Int.mul_sub]
  generalize x * x = q at *
  omega
theorem sinH_bd {x : Int} (h0 : 0 ≤ x) (h1 : x ≤ 32768) : 0 ≤ sinH x ∧ sinH x ≤ 16384 := by
  have a := arc h0 h1
  unfold sinH
  generalize x * (32768 - x) = p at *
  refine ⟨Int.ediv_nonneg (by omega) (by omega), ?_⟩
  have : (262144 * p) / (5368709120 - 4 * p) < 16385 := (Int.ediv_lt_iff_lt_mul (by omega)).2 (by omega)
  omega
theorem sineI_bd {x : Int} (h0 : 0 ≤ x) (h1 : x ≤ 65535) : -16384 ≤ sineI x ∧ sineI x ≤ 16384 := by
  unfold sineI
  split
  · have := sinH_bd (x := x - 32768) (by omega) (by omega); omega
  · have := sinH_bd (x := x) (by omega) (by omega); omega

/-- the squares of a quarter, one by one -/
def sN (x : Nat) : Nat := (262144 * (x * (32768 - x))) / (5368709120 - 4 * (x * (32768 - x)))
def chk (x : Nat) : Bool := Nat.ble 266338304 (sN x * sN x + sN (x + 16384) * sN (x + 16384)) && Nat.ble (sN x * sN x + sN (x + 16384) * sN (x + 16384)) 270532608
def allN : Nat → Nat → Bool
  | 0, n => chk n
  | k + 1, n => allN k n && allN k (n + 2 ^ k)
theorem allN_all : allN 14 0 = true := by decide +kernel
theorem allN_ok : ∀ (k n m : Nat), allN k n = true → n ≤ m → m < n + 2 ^ k → chk m = true
  | 0, n, m, h, h1, h2 => by
      obtain rfl : m = n := by omega
      exact h
  | k + 1, n, m, h, h1, h2 => by
      simp only [allN, Bool.and_eq_true] at h
      rw [Nat.pow_succ] at h2
      by_cases hm : m < n + 2 ^ k
      · exact allN_ok k n m h.1 h1 hm
      · exact allN_ok k (n + 2 ^ k) m h.2 (by omega) (by omega)
theorem sinH_nat {x : Nat} (h : x ≤ 32768) : sinH (x : Int) = (sN x : Int) := by
  have a := arc (x := (x : Int)) (by omega) (by omega)
  have e : ((x * (32768 - x) : Nat) : Int) = (x : Int) * (32768 - (x : Int)) := by
    rw [Int.natCast_mul, Int.natCast_sub h]; rfl
  unfold sinH sN
  rw [← e] at a ⊢
  generalize x * (32768 - x) = p at *
  rw [Int.natCast_ediv, Int.natCast_sub (by omega), Int.natCast_mul, Int.natCast_mul]
  rfl
theorem quarter {x : Int} (h0 : 0 ≤ x) (h1 : x < 16384) : 266338304 ≤ sinH x * sinH x + sinH (x + 16384) * sinH (x + 16384) ∧ sinH x * sinH x + sinH (x + 16384) * sinH (x + 16384) ≤ 270532608 := by
  obtain ⟨n, rfl⟩ := Int.eq_ofNat_of_zero_le h0
  have c := allN_ok 14 0 n allN_all (by omega) (by simp only [Nat.reducePow]; omega)
  rw [sinH_nat (by omega), show ((n : Int) + 16384) = ((n + 16384 : Nat) : Int) from rfl, sinH_nat (by omega)]
  simp only [chk, Bool.and_eq_true, Nat.ble_eq] at c
  generalize sN n = s at *
  generalize sN (n + 16384) = t at *
  have e : ((s : Int) * s + t * t) = ((s * s + t * t : Nat) : Int) := by rw [Int.natCast_add, Int.natCast_mul, Int.natCast_mul]
  rw [e]
  omega
/-- sine and cosine of any angle -/
theorem squares {x : Int} (h0 : 0 ≤ x) (h1 : x ≤ 65535) : 266338304 ≤ sineI x * sineI x + sineI ((x + 16384) % 65536) * sineI ((x + 16384) % 65536) ∧ sineI x * sineI x + sineI ((x + 16384) % 65536) * sineI ((x + 16384) % 65536) ≤ 270532608 := by
  have key : ∀ s t a b : Int, 266338304 ≤ s * s + t * t ∧ s * s + t * t ≤ 270532608 → (a = s ∨ a = -s) → (b = t ∨ b = -t) → 266338304 ≤ a * a + b * b ∧ a * a + b * b ≤ 270532608 := by
    intro s t a b h ha hb
    have e1 : a * a = s * s := by rcases ha with rfl | rfl <;> first | rfl | exact Int.neg_mul_neg _ _
    have e2 : b * b = t * t := by rcases hb with rfl | rfl <;> first | rfl | exact Int.neg_mul_neg _ _
    rw [e1, e2]; exact h
  have e : sineI x = sinH x ∧ x < 32768 ∨ sineI x = -sinH (x - 32768) ∧ 32768 ≤ x := by
    unfold sineI
    by_cases h : 32768 ≤ x
    · right; rw [if_pos h]; exact ⟨rfl, h⟩
    · left; rw [if_neg h]; exact ⟨rfl, by omega⟩
  by_cases c1 : x < 16384
  · have q := quarter h0 c1
    rw [show (x + 16384) % 65536 = x + 16384 by omega]
    refine key _ _ _ _ q (.inl ?_) (.inl ?_) <;> (unfold sineI; rw [if_neg (by omega)])
  · by_cases c2 : x < 32768
    · have q := quarter (x := x - 16384) (by omega) (by omega)
      rw [show x - 16384 + 16384 = x by omega] at q
      rw [show (x + 16384) % 65536 = x + 16384 by omega, Int.add_comm]
      refine key _ _ _ _ q (.inr ?_) (.inl ?_)
      · unfold sineI; rw [if_pos (by omega), show x + 16384 - 32768 = x - 16384 by omega]
      · unfold sineI; rw [if_neg (by omega)]
    · by_cases c3 : x < 49152
      · have q := quarter (x := x - 32768) (by omega) (by omega)
        rw [show (x + 16384) % 65536 = x + 16384 by omega]
        refine key _ _ _ _ q (.inr ?_) (.inr ?_)
        · unfold sineI; rw [if_pos (by omega)]
        · unfold sineI; rw [if_pos (by omega), show x + 16384 - 32768 = x - 32768 + 16384 by omega]
      · have q := quarter (x := x - 49152) (by omega) (by omega)
        rw [show x - 49152 + 16384 = x - 32768 by omega] at q
        rw [show (x + 16384) % 65536 = x - 49152 by omega, Int.add_comm]
        refine key _ _ _ _ q (.inl ?_) (.inr ?_)
        · unfold sineI; rw [if_neg (by omega)]
        · unfold sineI; rw [if_pos (by omega)]
theorem halfTurn {x : Int} (h0 : 0 ≤ x) (h1 : x ≤ 65535) : sineI ((x + 32768) % 65536) = -sineI x := by
  unfold sineI
  by_cases h : 32768 ≤ x
  · rw [show (x + 32768) % 65536 = x - 32768 by omega, if_neg (by omega), if_pos h, Int.neg_neg]
  · rw [show (x + 32768) % 65536 = x + 32768 by omega, if_pos (by omega), if_neg h, show x + 32768 - 32768 = x by omega]
/-- Go's quotient, made less where something is left below 0 -/
theorem go_fl {n d : Int} (hd : 1 ≤ d) : (if n.tmod d < 0 then n.tdiv d - 1 else n.tdiv d) = n / d := by
  rw [Int.tdiv_eq_ediv, Int.tmod_eq_emod]
  have h2 := Int.emod_nonneg n (b := d) (by omega)
  have h3 := Int.emod_lt_of_pos n (b := d) (by omega)
  have hs : d.sign = 1 := Int.sign_eq_one_of_pos (by omega)
  rw [hs]
  by_cases h : 0 ≤ n ∨ d ∣ n
  · simp only [if_pos h]; rw [if_neg (by omega)]; omega
  · simp only [if_neg h]; rw [if_pos (by omega)]; omega
theorem fl_tdiv {n d : Int} (hd : 1 ≤ d) : n.tdiv d - 1 ≤ n / d ∧ n / d ≤ n.tdiv d := by
  have := go_fl (n := n) hd
  split at this <;> omega
theorem fl_le (n : Int) {d : Int} (hd : 1 ≤ d) : d * (n / d) ≤ n ∧ n < d * (n / d) + d := by
  have h1 := Int.mul_ediv_add_emod n d
  have h2 := Int.emod_nonneg n (b := d) (by omega)
  have h3 := Int.emod_lt_of_pos n (b := d) (by omega)
  omega
theorem fl_bd {n d : Int} (hd : 1 ≤ d) (h0 : -9223372036854775808 ≤ n) (h1 : n ≤ 9223372036854775807) : -9223372036854775808 ≤ n / d ∧ n / d ≤ 9223372036854775807 := by
  refine ⟨?_, ?_⟩
  · rw [Int.le_ediv_iff_mul_le (by omega)]
    have := Int.mul_le_mul_of_nonpos_left (show (-9223372036854775808 : Int) ≤ 0 by omega) hd
    omega
  · have : n / d < 9223372036854775808 := (Int.ediv_lt_iff_lt_mul (by omega)).2 (by
      have := Int.mul_le_mul_of_nonneg_left hd (show (0 : Int) ≤ 9223372036854775808 by omega)
      omega)
    omega
end Go.Proofs.Ytmcnbgngojgfcaa.DR
