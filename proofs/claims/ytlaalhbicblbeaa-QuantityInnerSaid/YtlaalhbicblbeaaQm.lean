/- Plain arithmetic: floors, ceilings and limits (no program in sight). -/
namespace Go.Proofs.Ytlaalhbicblbeaa.QM

/-- the greatest quantity -/
abbrev Q : Int := 1099511627776

/-- two numbers are alike: equal, or both beyond the greatest quantity on one side. -/
def Cl (n v : Int) : Prop := n = v ∨ (1099511627776 < n ∧ 1099511627776 < v) ∨ (n < -1099511627776 ∧ v < -1099511627776)

theorem Cl.refl (n : Int) : Cl n n := .inl rfl
theorem Cl.min {a b c d : Int} (h : Cl a b) (k : Cl c d) : Cl (min a c) (min b d) := by
  unfold Cl at *; omega
theorem Cl.max {a b c d : Int} (h : Cl a b) (k : Cl c d) : Cl (max a c) (max b d) := by
  unfold Cl at *; omega

def isQ (x : Int) : Bool := decide (-1099511627776 ≤ x ∧ x ≤ 1099511627776)
def isD (x : Int) : Bool := decide (1 ≤ x ∧ x ≤ 1099511627776)
def vld (lo hi : Int) : Bool := isQ lo && isQ hi && decide (lo ≤ hi)

theorem Cl.isQ {a b : Int} (h : Cl a b) : isQ a = isQ b := by
  unfold Cl at h; unfold QM.isQ
  rw [Bool.eq_iff_iff]; simp; omega
theorem Cl.eq {a b : Int} (h : Cl a b) (q : QM.isQ b = true) : a = b := by
  unfold Cl at h; unfold QM.isQ at q; simp at q; omega

/-- the floor and the ceiling of a b / d -/
def fl (a b d : Int) : Int := a * b / d
def ce (a b d : Int) : Int := -((-(a * b)) / d)

/-- the amounts: quotient and rest -/
def qN (a b d : Int) : Nat := a.natAbs * b.natAbs / d.natAbs
def rN (a b d : Int) : Nat := a.natAbs * b.natAbs % d.natAbs

theorem natAbs_mul_pos {a b : Int} (h : decide (a < 0) = decide (b < 0)) : a * b = ((a.natAbs * b.natAbs : Nat) : Int) := by
  rw [← Int.natAbs_mul]
  have : 0 ≤ a * b := by
    by_cases ha : a < 0
    · have hb : b < 0 := by simpa [ha] using h.symm
      exact Int.le_of_lt (Int.mul_pos_of_neg_of_neg ha hb)
    · have hb : ¬ b < 0 := by simpa [ha] using h.symm
      exact Int.mul_nonneg (by omega) (by omega)
  omega

theorem natAbs_mul_neg {a b : Int} (h : decide (a < 0) ≠ decide (b < 0)) : a * b = -((a.natAbs * b.natAbs : Nat) : Int) := by
  rw [← Int.natAbs_mul]
  have : a * b ≤ 0 := by
    by_cases ha : a < 0
    · have hb : ¬ b < 0 := by intro hb; simp [ha, hb] at h
      exact Int.mul_nonpos_of_nonpos_of_nonneg (by omega) (by omega)
    · have hb : b < 0 := by
        by_cases hb : b < 0
        · exact hb
        · simp [ha, hb] at h
      exact Int.mul_nonpos_of_nonneg_of_nonpos (by omega) (by omega)
  omega

theorem fl_pos {a b d : Int} (hd : 0 < d) (h : decide (a < 0) = decide (b < 0)) : fl a b d = qN a b d := by
  unfold fl qN
  rw [natAbs_mul_pos h]
  have : d = ((d.natAbs : Nat) : Int) := by omega
  rw [this, Int.natAbs_natCast]
  exact (Int.natCast_ediv _ _).symm

theorem neg_div (P d : Nat) (hd : 0 < d) : (-(P : Int)) / (d : Int) = if P % d = 0 then -((P / d : Nat) : Int) else -((P / d : Nat) : Int) - 1 := by
  have h1 := Nat.div_add_mod P d
  have h2 := Nat.mod_lt P hd
  have key : (d : Int) * ((P / d : Nat) : Int) + ((P % d : Nat) : Int) = (P : Int) := by
    rw [← Int.natCast_mul, ← Int.natCast_add, h1]
  split
  · rename_i h
    rw [h] at key
    have : (-(P : Int)) = (d : Int) * (-((P / d : Nat) : Int)) := by rw [Int.mul_neg]; omega
    rw [this, Int.mul_ediv_cancel_left _ (by omega)]
  · rename_i h
    have e : (-(P : Int)) = ((d : Int) - ((P % d : Nat) : Int)) + (d : Int) * (-((P / d : Nat) : Int) - 1) := by
      rw [Int.mul_sub, Int.mul_neg]; omega
    rw [e, Int.add_mul_ediv_left _ _ (by omega), Int.ediv_eq_zero_of_lt (by omega) (by omega)]
    omega

theorem fl_neg {a b d : Int} (hd : 0 < d) (h : decide (a < 0) ≠ decide (b < 0)) : fl a b d = if rN a b d = 0 then -(qN a b d : Int) else -(qN a b d : Int) - 1 := by
  unfold fl qN rN
  rw [natAbs_mul_neg h]
  have : d = ((d.natAbs : Nat) : Int) := by omega
  rw [this, Int.natAbs_natCast]
  exact neg_div _ _ (by omega)

theorem ce_pos {a b d : Int} (hd : 0 < d) (h : decide (a < 0) = decide (b < 0)) : ce a b d = if rN a b d = 0 then (qN a b d : Int) else (qN a b d : Int) + 1 := by
  unfold ce qN rN
  rw [natAbs_mul_pos h]
  have : d = ((d.natAbs : Nat) : Int) := by omega
  rw [this, Int.natAbs_natCast, neg_div _ _ (by omega)]
  split <;> omega

theorem ce_neg {a b d : Int} (hd : 0 < d) (h : decide (a < 0) ≠ decide (b < 0)) : ce a b d = -(qN a b d : Int) := by
  unfold ce qN
  rw [natAbs_mul_neg h, Int.neg_neg]
  have : d = ((d.natAbs : Nat) : Int) := by omega
  rw [this, Int.natAbs_natCast]
  rw [Int.natCast_ediv]

theorem ce_eq {a b d : Int} (hd : 0 < d) : ce a b d = if a * b % d = 0 then fl a b d else fl a b d + 1 := by
  unfold ce fl
  have h1 := Int.mul_ediv_add_emod (a * b) d
  have h2 := Int.emod_nonneg (a * b) (show d ≠ 0 by omega)
  have h3 := Int.emod_lt_of_pos (a * b) hd
  generalize a * b / d = q at *
  generalize a * b % d = r at *
  rw [← h1]
  split
  · rename_i h
    subst h
    rw [Int.add_zero, ← Int.mul_neg, Int.mul_ediv_cancel_left _ (by omega)]
    omega
  · have e : -(d * q + r) = (d - r) + d * (-q - 1) := by rw [Int.mul_sub, Int.mul_neg]; omega
    rw [e, Int.add_mul_ediv_left _ _ (by omega), Int.ediv_eq_zero_of_lt (by omega) (by omega)]
    omega


/-- what 'split' returns: the floor, where it is not far beyond the limits -/
def sW (a b d : Int) : Int :=
  if decide (a < 0) = decide (b < 0) then min (qN a b d : Int) 4611686018427387904
  else if rN a b d = 0 then -(min (qN a b d : Int) 4611686018427387904) else -(min (qN a b d : Int) 4611686018427387904) - 1

theorem sW_bd (a b d : Int) : -4611686018427387905 ≤ sW a b d ∧ sW a b d ≤ 4611686018427387904 := by
  unfold sW; split
  · omega
  · split <;> omega

theorem sW_cl {a b d : Int} (hd : 0 < d) : Cl (sW a b d) (fl a b d) := by
  unfold sW
  split
  · rename_i h
    rw [fl_pos hd h]; unfold Cl; omega
  · rename_i h
    rw [fl_neg hd h]
    split <;> (unfold Cl; omega)

/-- far from the floor, far from what is one more -/
theorem sW_cl1 {a b d : Int} (hd : 0 < d) : Cl (sW a b d + 1) (fl a b d + 1) := by
  unfold sW
  split
  · rename_i h
    rw [fl_pos hd h]; unfold Cl; omega
  · rename_i h
    rw [fl_neg hd h]
    split <;> (unfold Cl; omega)

theorem sR_pos {a b d : Int} (hd : 0 < d) (h : decide (a < 0) = decide (b < 0)) : a * b % d = (rN a b d : Int) := by
  unfold rN
  rw [natAbs_mul_pos h]
  have : d = ((d.natAbs : Nat) : Int) := by omega
  rw [this, Int.natAbs_natCast]
  exact (Int.natCast_emod _ _).symm

theorem sR_neg {a b d : Int} (hd : 0 < d) (h : decide (a < 0) ≠ decide (b < 0)) : a * b % d = if rN a b d = 0 then 0 else d - (rN a b d : Int) := by
  have h1 := Int.mul_ediv_add_emod (a * b) d
  have h2 := fl_neg hd h
  have h3 : a * b = -((a.natAbs * b.natAbs : Nat) : Int) := natAbs_mul_neg h
  have h4 := Nat.div_add_mod (a.natAbs * b.natAbs) d.natAbs
  unfold fl at h2
  have hq : d.natAbs * qN a b d + rN a b d = a.natAbs * b.natAbs := h4
  have hd2 : d = ((d.natAbs : Nat) : Int) := by omega
  have hq2 : d * (qN a b d : Int) + (rN a b d : Int) = ((a.natAbs * b.natAbs : Nat) : Int) := by
    rw [← hq, Int.natCast_add, Int.natCast_mul, ← hd2]
  rw [h2] at h1
  split at h1
  · rename_i h0
    rw [if_pos h0]
    rw [h0] at hq2
    rw [Int.mul_neg] at h1
    omega
  · rename_i h0
    rw [if_neg h0]
    rw [Int.mul_sub, Int.mul_neg] at h1
    omega

/-- what 'floor', 'ceil' and 'nearest' return -/
def vF (a b d : Int) : Int := sW a b d
def vC (a b d : Int) : Int := if 0 < a * b % d then sW a b d + 1 else sW a b d
def vN (a b d : Int) : Int := if d ≤ 2 * (a * b % d) then sW a b d + 1 else sW a b d
theorem vF_cl {a b d : Int} (hd : 0 < d) : Cl (vF a b d) (fl a b d) := sW_cl hd
theorem vC_cl {a b d : Int} (hd : 0 < d) : Cl (vC a b d) (ce a b d) := by
  have h := Int.emod_nonneg (a * b) (show d ≠ 0 by omega)
  unfold vC
  rw [ce_eq hd]
  split
  · rw [if_neg (by omega)]; exact sW_cl1 hd
  · rw [if_pos (by omega)]; exact sW_cl hd
/-- rounded to the nearest number, and a half up -/
def ro (a b d : Int) : Int := if d ≤ 2 * (a * b % d) then fl a b d + 1 else fl a b d
theorem vN_cl {a b d : Int} (hd : 0 < d) : Cl (vN a b d) (ro a b d) := by
  unfold vN ro
  split
  · exact sW_cl1 hd
  · exact sW_cl hd
/-- a result, or the error 4 -/
def lim (v : Int) : Int × Int := if isQ v = true then (v, 0) else (0, 4)
theorem Cl.lim {a b : Int} (h : Cl a b) : lim a = lim b := by
  unfold QM.lim
  rw [h.isQ]
  split
  · rename_i q; rw [h.eq q]
  · rfl
/-- the error of a span -/
def chk (lo hi : Int) : Int := if vld lo hi = true then 0 else 2
/-- a result, whose ends have to be quantities: its ends, and its error -/
def sp (lo hi : Int) : Int × Int × Int := if isQ lo = true ∧ isQ hi = true then (lo, hi, 0) else (0, 0, 4)
theorem Cl.sp {a b c d : Int} (h : Cl a b) (k : Cl c d) : sp a c = sp b d := by
  unfold QM.sp
  rw [h.isQ, k.isQ]
  split
  · rename_i q; rw [h.eq q.1, k.eq q.2]
  · rfl
theorem vld_iff {lo hi : Int} : vld lo hi = true ↔ (-1099511627776 ≤ lo ∧ lo ≤ hi ∧ hi ≤ 1099511627776) := by
  unfold vld isQ; simp; omega
/-- the answer of a rounding -/
def rnd (f : Int → Int → Int → Int) (x n d : Int) : Int × Int := if isQ x = true ∧ isQ n = true ∧ isD d = true then lim (f x n d) else (0, 2)
theorem rnd_bad {f : Int → Int → Int → Int} {x n d : Int} (h : ¬ (isQ x = true ∧ isQ n = true ∧ isD d = true)) : rnd f x n d = (0, 2) := if_neg h
theorem rnd_good {f : Int → Int → Int → Int} {x n d : Int} (h1 : isQ x = true) (h2 : isQ n = true) (h3 : isD d = true) : rnd f x n d = lim (f x n d) := if_pos ⟨h1, h2, h3⟩
theorem isQ_bd {x : Int} (h : isQ x = true) : -1099511627776 ≤ x ∧ x ≤ 1099511627776 := by unfold isQ at h; simpa using h
theorem isD_bd {x : Int} (h : isD x = true) : 1 ≤ x ∧ x ≤ 1099511627776 := by unfold isD at h; simpa using h
theorem rnd_congr {f g : Int → Int → Int → Int} {x n d : Int} (h : 0 < d → Cl (f x n d) (g x n d)) : rnd f x n d = rnd g x n d := by
  unfold rnd
  split
  · rename_i k; exact (h (by have := isD_bd k.2.2; omega)).lim
  · rfl
end Go.Proofs.Ytlaalhbicblbeaa.QM
