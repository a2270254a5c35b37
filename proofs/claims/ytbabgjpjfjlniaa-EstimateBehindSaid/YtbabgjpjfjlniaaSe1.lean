/- Numbers of sensors: whole steps, what is shown, what is behind. Plain mathematics. -/
namespace Go.Proofs.Ytbabgjpjfjlniaa.SE

/-- whole steps of S, rounded to the nearest one -/
def st (S y : Int) : Int := S * ((y + S / 2) / S)
def okS (N S L M : Int) : Prop := (0 ≤ N ∧ N ≤ 1073741824) ∧ (1 ≤ S ∧ S ≤ 1073741824) ∧ (-1073741824 ≤ L ∧ L ≤ 1073741824) ∧ (L ≤ M ∧ M ≤ 1073741824)
instance (N S L M : Int) : Decidable (okS N S L M) := by unfold okS; infer_instance
def chk (N S L M : Int) : Int := if okS N S L M then 0 else 2
def isQ (x : Int) : Prop := -1099511627776 ≤ x ∧ x ≤ 1099511627776
instance (x : Int) : Decidable (isQ x) := by unfold isQ; infer_instance
def shV (N S L M x z : Int) : Int := if okS N S L M ∧ isQ x ∧ (-N ≤ z ∧ z ≤ N) then max L (min (st S (x + z)) M) else 0
def shE (N S L M x z : Int) : Int := if ¬ okS N S L M ∨ ¬ isQ x then 2 else if -N ≤ z ∧ z ≤ N then 0 else 3
def poss (S L M r : Int) : Prop := r = L ∨ r = M ∨ ((L ≤ r ∧ r ≤ M) ∧ r % S = 0)
instance (S L M r : Int) : Decidable (poss S L M r) := by unfold poss; infer_instance
/-- the first number of which at least r is shown, the first one of which more than r is shown -/
def lo1 (N S L r : Int) : Int := if L < r then -(S * ((-r) / S)) - S / 2 - N else -1099511627776
def hi1 (N S M r : Int) : Int := if r < M then S * (r / S) + S - 1 - S / 2 + N else 1099511627776
def bLo (N S L M r : Int) : Int := if okS N S L M ∧ poss S L M r then lo1 N S L r else 0
def bHi (N S L M r : Int) : Int := if okS N S L M ∧ poss S L M r then hi1 N S M r else 0
def bE (N S L M r : Int) : Int := if okS N S L M then (if poss S L M r then 0 else 5) else 2
/-- where the halving ends -/
def c1 (N S L M r : Int) : Int := if M < r then 1099511627777 else lo1 N S L r
def c2 (N S L M r : Int) : Int := if r < L then -1099511627776 else hi1 N S M r + 1

theorem fl_mul {S : Int} (y : Int) (h : 1 ≤ S) : S * (y / S) ≤ y ∧ y < S * (y / S) + S := by
  have h1 := Int.mul_ediv_add_emod y S
  have h2 := Int.emod_nonneg y (b := S) (by omega)
  have h3 := Int.emod_lt_of_pos y (b := S) (by omega)
  omega
/-- S * k is at most y just if k is at most the quotient -/
theorem le_fl {S : Int} (y k : Int) (h : 1 ≤ S) : k ≤ y / S ↔ S * k ≤ y := by
  rw [Int.le_ediv_iff_mul_le (by omega), Int.mul_comm]
theorem mul_le_iff {S : Int} (a b : Int) (h : 1 ≤ S) : S * a ≤ S * b ↔ a ≤ b := by
  constructor
  · intro h1; exact Int.le_of_mul_le_mul_left h1 (by omega)
  · intro h1; exact Int.mul_le_mul_of_nonneg_left h1 (by omega)
/-- the steps of y are at least r just if y is at least so much -/
theorem st_ge {S : Int} (y r : Int) (h : 1 ≤ S) : r ≤ st S y ↔ -(S * ((-r) / S)) - S / 2 ≤ y := by
  unfold st
  have f1 := fl_mul (-r) h
  have f2 := fl_mul (y + S / 2) h
  generalize hk : (-r) / S = k at *
  generalize hq : (y + S / 2) / S = q at *
  constructor
  · intro h1
    -- r ≤ S * q, so - q ≤ k
    have : -q ≤ k := by rw [← hk, le_fl _ _ h, Int.mul_neg]; omega
    have := (mul_le_iff (-k) q h).2 (by omega)
    rw [Int.mul_neg] at this
    omega
  · intro h1
    have : -k ≤ q := by rw [← hq, le_fl _ _ h, Int.mul_neg]; omega
    have := (mul_le_iff (-k) q h).2 this
    rw [Int.mul_neg] at this
    omega
/-- more than r -/
theorem st_gt {S : Int} (y r : Int) (h : 1 ≤ S) : r < st S y ↔ S * (r / S) + S - S / 2 ≤ y := by
  unfold st
  have f1 := fl_mul r h
  have f2 := fl_mul (y + S / 2) h
  generalize hk : r / S = k at *
  generalize hq : (y + S / 2) / S = q at *
  constructor
  · intro h1
    have : ¬ q ≤ k := fun hn => by have := (mul_le_iff q k h).2 hn; omega
    have := (mul_le_iff (k + 1) q h).2 (by omega)
    rw [Int.mul_add, Int.mul_one] at this
    omega
  · intro h1
    have : k + 1 ≤ q := by rw [← hq, le_fl _ _ h, Int.mul_add, Int.mul_one]; omega
    have := (mul_le_iff (k + 1) q h).2 this
    rw [Int.mul_add, Int.mul_one] at this
    omega
theorem c1_ge {N S L M r x : Int} (h : okS N S L M) (hx : isQ x) : (r ≤ max L (min (st S (x + N)) M)) ↔ c1 N S L M r ≤ x := by
  have g := st_ge (x + N) r h.2.1.1
  unfold okS at h
  unfold isQ at hx
  unfold c1 lo1
  generalize S * ((-r) / S) = k at *
  generalize st S (x + N) = s at *
  split
  · omega
  · split <;> omega
theorem c2_gt {N S L M r x : Int} (h : okS N S L M) (hx : isQ x) : (r < max L (min (st S (x - N)) M)) ↔ c2 N S L M r ≤ x := by
  have g := st_gt (x - N) r h.2.1.1
  unfold okS at h
  unfold isQ at hx
  unfold c2 hi1
  generalize S * (r / S) = k at *
  generalize st S (x - N) = s at *
  split
  · omega
  · split <;> omega
theorem c1_bd {N S L M r : Int} (h : okS N S L M) : -1099511627776 ≤ c1 N S L M r ∧ c1 N S L M r ≤ 1099511627777 := by
  have f := fl_mul (-r) h.2.1.1
  unfold okS at h
  unfold c1 lo1
  generalize S * ((-r) / S) = k at *
  split
  · omega
  · split <;> omega
theorem c2_bd {N S L M r : Int} (h : okS N S L M) : -1099511627776 ≤ c2 N S L M r ∧ c2 N S L M r ≤ 1099511627777 := by
  have f := fl_mul r h.2.1.1
  unfold okS at h
  unfold c2 hi1
  generalize S * (r / S) = k at *
  split
  · omega
  · split <;> omega
/-- the multiples of S: both quotients meet -/
theorem mod0 {S r : Int} (h : 1 ≤ S) : r % S = 0 ↔ S * (r / S) = r := by
  have h1 := Int.mul_ediv_add_emod r S
  omega
theorem neg_fl {S r : Int} (h : 1 ≤ S) : -(S * ((-r) / S)) = if r % S = 0 then S * (r / S) else S * (r / S) + S := by
  have f1 := fl_mul r h
  have f2 := fl_mul (-r) h
  have m := mod0 (r := r) h
  split
  · rename_i h0
    rw [m] at h0
    have : -(r / S) ≤ (-r) / S := by rw [le_fl _ _ h, Int.mul_neg]; omega
    have := (mul_le_iff _ _ h).2 this
    rw [Int.mul_neg] at this
    omega
  · rename_i h0
    rw [m] at h0
    have : -(r / S) - 1 ≤ (-r) / S := by rw [le_fl _ _ h, Int.mul_sub, Int.mul_neg, Int.mul_one]; omega
    have g := (mul_le_iff _ _ h).2 this
    rw [Int.mul_sub, Int.mul_neg, Int.mul_one] at g
    have : ¬ -(r / S) ≤ (-r) / S := fun hn => by have := (mul_le_iff _ _ h).2 hn; rw [Int.mul_neg] at this; omega
    have := (mul_le_iff ((-r) / S) (-(r / S) - 1) h).2 (by omega)
    rw [Int.mul_sub, Int.mul_neg, Int.mul_one] at this
    omega
end Go.Proofs.Ytbabgjpjfjlniaa.SE
