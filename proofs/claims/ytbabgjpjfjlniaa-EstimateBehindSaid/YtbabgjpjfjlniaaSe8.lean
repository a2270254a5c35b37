/- What is shown of a number, noise by noise, and the ends of what is behind a reading. Plain mathematics. -/
import Derived.Test.YtbabgjpjfjlniaaSe2
namespace Go.Proofs.Ytbabgjpjfjlniaa.SE

theorem shV_in {N S L M x z : Int} (h : okS N S L M) (hx : isQ x) (hz : -N ≤ z ∧ z ≤ N) : shV N S L M x z = into (st S (x + z)) L M := by
  unfold shV into; rw [if_pos ⟨h, hx, hz⟩]
theorem shE_in {N S L M x z : Int} (h : okS N S L M) (hx : isQ x) (hz : -N ≤ z ∧ z ≤ N) : shE N S L M x z = 0 := by
  unfold shE; rw [if_neg (by simp [h, hx]), if_pos hz]
theorem shE_out {N S L M x z : Int} (h : okS N S L M) (hx : isQ x) (hz : ¬ (-N ≤ z ∧ z ≤ N)) : shE N S L M x z = 3 := by
  unfold shE; rw [if_neg (by simp [h, hx]), if_neg hz]
theorem st_mono {S a b : Int} (h : 1 ≤ S) (hab : a ≤ b) : st S a ≤ st S b := by
  unfold st
  rw [mul_le_iff _ _ h]
  exact Int.ediv_le_ediv (by omega) (by omega)
theorem into_mono {a b L M : Int} (h : a ≤ b) : into a L M ≤ into b L M := by unfold into; omega
theorem into_bd {a L M : Int} (h : L ≤ M) : L ≤ into a L M ∧ into a L M ≤ M := by unfold into; omega
/-- is r shown of y with some noise? -/
def shown (N S L M y r : Int) : Prop := ∃ z, (-N ≤ z ∧ z ≤ N) ∧ into (st S (y + z)) L M = r
theorem shown_iff {N S L M y r : Int} (h : okS N S L M) (hy : isQ y) (hp : poss S L M r) : shown N S L M y r ↔ (lo1 N S L r ≤ y ∧ y ≤ hi1 N S M r) := by
  obtain ⟨q1, q2, q3⟩ := poss_lt h hp
  have g1 := c1_ge (r := r) h hy
  have g2 := c2_gt (r := r) h hy
  have hLM := h.2.2.2.1
  have hN := h.1.1
  have hS := h.2.1.1
  change r ≤ into (st S (y + N)) L M ↔ _ at g1
  change r < into (st S (y - N)) L M ↔ _ at g2
  rw [q2] at g1
  rw [q3] at g2
  constructor
  · rintro ⟨z, hz, e⟩
    have m1 := into_mono (L := L) (M := M) (st_mono hS (show y + z ≤ y + N by omega))
    have m2 := into_mono (L := L) (M := M) (st_mono hS (show y - N ≤ y + z by omega))
    constructor
    · exact g1.1 (by omega)
    · have : ¬ _ := mt g2.2 (show ¬ r < into (st S (y - N)) L M by omega)
      omega
  · rintro ⟨k1, k2⟩
    have a1 := g1.2 k1
    have a2 : ¬ r < into (st S (y - N)) L M := mt g2.1 (by omega)
    rcases hp with e | e | ⟨e, e2⟩
    · refine ⟨-N, by omega, ?_⟩
      have := into_bd (a := st S (y - N)) hLM
      rw [show y + -N = y - N by omega]
      omega
    · refine ⟨N, by omega, ?_⟩
      have := into_bd (a := st S (y + N)) hLM
      omega
    · -- a multiple of S
      have hm := (mod0 hS).1 e2
      by_cases hlo : r - S / 2 - y ≤ -N
      · refine ⟨-N, by omega, ?_⟩
        have g := (st_ge (y - N) r hS).2 (by rw [neg_fl hS, if_pos e2]; omega)
        rw [show y + -N = y - N by omega]
        unfold into at *
        omega
      · have g := (st_ge (y + N) r hS)
        rw [neg_fl hS, if_pos e2] at g
        by_cases hr : r ≤ L
        · -- r = L: the least noise
          refine ⟨-N, by omega, ?_⟩
          have := into_bd (a := st S (y - N)) hLM
          rw [show y + -N = y - N by omega]
          omega
        · have : r ≤ st S (y + N) := by unfold into at a1; omega
          have := g.1 this
          refine ⟨r - S / 2 - y, by omega, ?_⟩
          rw [show y + (r - S / 2 - y) = r - S / 2 by omega]
          unfold st
          rw [show r - S / 2 + S / 2 = r by omega, hm]
          unfold into
          omega
theorem shV_poss {N S L M x z : Int} (h : okS N S L M) (hx : isQ x) (hz : -N ≤ z ∧ z ≤ N) : poss S L M (shV N S L M x z) := by
  rw [shV_in h hx hz]
  exact into_cases h.2.2.2.1
theorem shown_self {N S L M x z : Int} (h : okS N S L M) (hx : isQ x) (hz : -N ≤ z ∧ z ≤ N) : shown N S L M x (shV N S L M x z) :=
  ⟨z, hz, (shV_in h hx hz).symm⟩
/-- the ends of what is behind a reading that is possible -/
theorem ends_bd {N S L M r : Int} (h : okS N S L M) (hp : poss S L M r) : -1099511627776 ≤ lo1 N S L r ∧ lo1 N S L r ≤ hi1 N S M r ∧ hi1 N S M r ≤ 1099511627776 := by
  obtain ⟨q1, q2, q3⟩ := poss_lt h hp
  have b1 := c1_bd (r := r) h
  have b2 := c2_bd (r := r) h
  omega
end Go.Proofs.Ytbabgjpjfjlniaa.SE
