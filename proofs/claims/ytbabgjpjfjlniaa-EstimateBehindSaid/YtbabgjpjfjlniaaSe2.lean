/- What the halving of the reference comes to. Plain mathematics. -/
import Derived.Test.YtbabgjpjfjlniaaSe1
namespace Go.Proofs.Ytbabgjpjfjlniaa.SE

theorem tdiv_fl {n d : Int} (hd : 1 ≤ d) : (if n.tmod d < 0 then n.tdiv d - 1 else n.tdiv d) = n / d := by
  rw [Int.tdiv_eq_ediv, Int.tmod_eq_emod]
  have h2 := Int.emod_nonneg n (b := d) (by omega)
  have h3 := Int.emod_lt_of_pos n (b := d) (by omega)
  have hs : d.sign = 1 := Int.sign_eq_one_of_pos (by omega)
  rw [hs]
  by_cases h : 0 ≤ n ∨ d ∣ n
  · simp only [if_pos h]; rw [if_neg (by omega)]; omega
  · simp only [if_neg h]; rw [if_pos (by omega)]; omega
theorem tmod0 {n d : Int} : n.tmod d = 0 ↔ n % d = 0 := by
  rw [← Int.dvd_iff_tmod_eq_zero, ← Int.dvd_iff_emod_eq_zero]
theorem st_mod (S y : Int) : st S y % S = 0 := by unfold st; exact Int.mul_emod_right S _
def into (x lo hi : Int) : Int := max lo (min x hi)
/-- does the reference find a number behind the reading? -/
def found (N S L M r A B : Int) : Prop := ¬ (A > B - 1) ∧ ¬ (r < into (st S (A - N)) L M ∨ r > into (st S (A + N)) L M) ∧ (r = into (st S (A - N)) L M ∨ r = into (st S (A + N)) L M ∨ r % S = 0)
theorem into_cases {S L M y : Int} (h : L ≤ M) : into (st S y) L M = L ∨ into (st S y) L M = M ∨ ((L ≤ into (st S y) L M ∧ into (st S y) L M ≤ M) ∧ into (st S y) L M % S = 0) := by
  have := st_mod S y
  generalize st S y = s at *
  unfold into
  by_cases h1 : s < L
  · left; omega
  · by_cases h2 : M < s
    · right; left; omega
    · right; right
      rw [show max L (min s M) = s by omega]
      exact ⟨⟨by omega, by omega⟩, this⟩
theorem poss_lt {N S L M r : Int} (h : okS N S L M) (hp : poss S L M r) : c1 N S L M r < c2 N S L M r ∧ c1 N S L M r = lo1 N S L r ∧ c2 N S L M r = hi1 N S M r + 1 := by
  have hn := neg_fl (S := S) (r := r) h.2.1.1
  have f1 := fl_mul (-r) h.2.1.1
  have f2 := fl_mul r h.2.1.1
  have m := mod0 (S := S) (r := r) h.2.1.1
  unfold okS at h
  unfold poss at hp
  refine ⟨?_, ?_, ?_⟩
  · unfold c1 c2 lo1 hi1
    generalize S * ((-r) / S) = k1 at *
    generalize S * (r / S) = k2 at *
    generalize r % S = q at *
    rcases hp with e | e | ⟨e, e2⟩
    · repeat' split
      all_goals first | omega | (simp_all; omega)
    · repeat' split
      all_goals first | omega | (simp_all; omega)
    · rw [if_pos e2] at hn
      have := m.1 e2
      repeat' split
      all_goals omega
  · unfold c1; rw [if_neg (by omega)]
  · unfold c2; rw [if_neg (by omega)]
theorem found_iff {N S L M r A B : Int} (h : okS N S L M) (hA : A = max (-1099511627776) (min 1099511627777 (c1 N S L M r))) (hB : B = max A (min 1099511627777 (c2 N S L M r))) : found N S L M r A B ↔ poss S L M r := by
  have b1 := c1_bd (r := r) h
  have b2 := c2_bd (r := r) h
  constructor
  · rintro ⟨h1, h2, h3⟩
    rcases h3 with e | e | e
    · rw [e]
      have := into_cases (S := S) (L := L) (M := M) (y := A - N) h.2.2.2.1
      exact this
    · rw [e]; exact into_cases h.2.2.2.1
    · right; right
      refine ⟨?_, e⟩
      have hLM := h.2.2.2.1
      unfold into at h2
      omega
  · intro hp
    obtain ⟨q1, q2, q3⟩ := poss_lt h hp
    have hA' : A = c1 N S L M r := by omega
    have hB' : B = c2 N S L M r := by omega
    have hx : isQ A := by unfold isQ; omega
    have g1 := (c1_ge (r := r) h hx).2 (by omega)
    have g2 : ¬ _ := mt (c2_gt (r := r) h hx).1 (by omega)
    refine ⟨by omega, by unfold into; omega, ?_⟩
    unfold poss at hp
    have hLM := h.2.2.2.1
    unfold into
    rcases hp with e | e | ⟨e, e2⟩
    · left; omega
    · right; left; omega
    · right; right; exact e2
theorem found_ends {N S L M r A B : Int} (h : okS N S L M) (hA : A = max (-1099511627776) (min 1099511627777 (c1 N S L M r))) (hB : B = max A (min 1099511627777 (c2 N S L M r))) (hp : poss S L M r) : A = lo1 N S L r ∧ B - 1 = hi1 N S M r := by
  have b1 := c1_bd (r := r) h
  have b2 := c2_bd (r := r) h
  obtain ⟨q1, q2, q3⟩ := poss_lt h hp
  omega
end Go.Proofs.Ytbabgjpjfjlniaa.SE
