/- The weakening of a motor's field: plain mathematics. -/
import Derived.Below
import Derived.Test.YtgbfaomlmpfbfaaSw40
namespace Go.Proofs.Ytgbfaomlmpfbfaa
set_option linter.unusedVariables false
set_option linter.unusedSimpArgs false
set_option maxRecDepth 100000
namespace WK
theorem le_fl {a n k : Int} (hk : 1 ≤ k) : a ≤ n / k ↔ a * k ≤ n := Int.le_ediv_iff_mul_le (show 0 < k by omega)
theorem fl_le {a n k : Int} (hk : 1 ≤ k) : n / k ≤ a ↔ n + 1 ≤ (a + 1) * k := by
  have := Int.ediv_lt_iff_lt_mul (a := n) (b := a + 1) (c := k) (by omega)
  omega
/-- the least and the greatest x for which k x / n, rounded down, is from l to h -/
def btL (k n l h : Int) : Int := if k < 0 then 0 - ((h + 1) * n - 1) / (0 - k) else if 0 < k then 0 - (0 - l * n) / k else if l ≤ 0 ∧ 0 ≤ h then -1152921504606846976 else 1152921504606846976
def btH (k n l h : Int) : Int := if k < 0 then 0 - (0 - (0 - l * n) / (0 - k)) else if 0 < k then ((h + 1) * n - 1) / k else if l ≤ 0 ∧ 0 ≤ h then 1152921504606846976 else -1152921504606846976
theorem bt_iff {k n l h x : Int} (hn : 1 ≤ n) (h0 : -1152921504606846976 < x) (h1 : x < 1152921504606846976) : (btL k n l h ≤ x ∧ x ≤ btH k n l h) ↔ (l ≤ k * x / n ∧ k * x / n ≤ h) := by
  rw [le_fl hn, fl_le hn]
  unfold btL btH
  by_cases hk : k < 0
  · rw [if_pos hk, if_pos hk]
    have e1 : (0 - ((h + 1) * n - 1) / (0 - k) ≤ x) ↔ ((0 - x) * (0 - k) ≤ (h + 1) * n - 1) := by
      rw [← le_fl (by omega)]; omega
    have e2 : (x ≤ 0 - (0 - (0 - l * n) / (0 - k))) ↔ (x * (0 - k) ≤ 0 - l * n) := by
      rw [← le_fl (by omega)]; omega
    rw [e1, e2]
    have g1 : (0 - x) * (0 - k) = k * x := by rw [Int.zero_sub, Int.zero_sub, Int.neg_mul_neg, Int.mul_comm]
    have g2 : x * (0 - k) = 0 - k * x := by rw [Int.zero_sub, Int.mul_neg, Int.mul_comm]; omega
    rw [g1, g2]
    omega
  · rw [if_neg hk, if_neg hk]
    by_cases hp : 0 < k
    · rw [if_pos hp, if_pos hp]
      have e1 : (0 - (0 - l * n) / k ≤ x) ↔ ((0 - x) * k ≤ 0 - l * n) := by
        rw [← le_fl (by omega)]; omega
      have e2 : (x ≤ ((h + 1) * n - 1) / k) ↔ (x * k ≤ (h + 1) * n - 1) := le_fl (by omega)
      rw [e1, e2]
      have g1 : (0 - x) * k = 0 - k * x := by rw [Int.zero_sub, Int.neg_mul, Int.mul_comm x k]; omega
      rw [g1, Int.mul_comm x k]
      omega
    · obtain rfl : k = 0 := by omega
      rw [if_neg hp, if_neg hp, Int.zero_mul]
      have f1 : l * n ≤ 0 ↔ l ≤ 0 := by
        have := le_fl (a := l) (n := 0) hn
        rw [Int.zero_ediv] at this
        exact this.symm
      have f2 : 0 + 1 ≤ (h + 1) * n ↔ 0 ≤ h := by
        have := fl_le (a := h) (n := 0) hn
        rw [Int.zero_ediv] at this
        exact this.symm
      rw [f1, f2]
      by_cases hz : l ≤ 0 ∧ 0 ≤ h
      · rw [if_pos hz, if_pos hz]; omega
      · rw [if_neg hz, if_neg hz]; omega
theorem mul_mono {a b n : Int} (hn : 0 ≤ n) (h : a ≤ b) : a * n ≤ b * n := Int.mul_le_mul_of_nonneg_right h hn
theorem fl_mono {a b k : Int} (hk : 1 ≤ k) (h : a ≤ b) : a / k ≤ b / k := Int.ediv_le_ediv (by omega) h
/-- a wider span, more numbers; if there are any -/
theorem bt_wide {k n l h l' h' : Int} (hn : 1 ≤ n) (hl : l' ≤ l) (hh : h ≤ h') (hz : k ≠ 0 ∨ (l ≤ 0 ∧ 0 ≤ h)) : btL k n l' h' ≤ btL k n l h ∧ btH k n l h ≤ btH k n l' h' := by
  have m1 := mul_mono (n := n) (by omega) hl
  have m2 := mul_mono (a := h + 1) (b := h' + 1) (n := n) (by omega) (by omega)
  unfold btL btH
  by_cases hk : k < 0
  · simp only [if_pos hk]
    have a1 := fl_mono (a := (h + 1) * n - 1) (b := (h' + 1) * n - 1) (k := 0 - k) (by omega) (by omega)
    have a2 := fl_mono (a := 0 - l * n) (b := 0 - l' * n) (k := 0 - k) (by omega) (by omega)
    omega
  · by_cases hp : 0 < k
    · simp only [if_neg hk, if_pos hp]
      have a1 := fl_mono (a := (h + 1) * n - 1) (b := (h' + 1) * n - 1) (k := k) (by omega) (by omega)
      have a2 := fl_mono (a := 0 - l * n) (b := 0 - l' * n) (k := k) (by omega) (by omega)
      omega
    · simp only [if_neg hk, if_neg hp]
      rw [if_pos (show l ≤ 0 ∧ 0 ≤ h by omega), if_pos (show l ≤ 0 ∧ 0 ≤ h by omega), if_pos (show l' ≤ 0 ∧ 0 ≤ h' by omega), if_pos (show l' ≤ 0 ∧ 0 ≤ h' by omega)]
      omega
/-- ends of products, as the program makes them -/
def sL (a b : Int) : Int := min (min (min (1 * a) (1 * b)) (1 * a)) (1 * b)
def sH (a b : Int) : Int := max (max (max (1 * a) (1 * b)) (1 * a)) (1 * b)
def tL (p q y : Int) : Int := min (min (min (p * y) (p * y)) (q * y)) (q * y)
def tH (p q y : Int) : Int := max (max (max (p * y) (p * y)) (q * y)) (q * y)
theorem s_eq {a b : Int} (h : a ≤ b) : sL a b = a ∧ sH a b = b := by unfold sL sH; omega
theorem seg_mul {p q x : Int} (y : Int) (h0 : p ≤ x) (h1 : x ≤ q) : (p * y ≤ x * y ∧ x * y ≤ q * y) ∨ (q * y ≤ x * y ∧ x * y ≤ p * y) := by
  rcases Int.le_total 0 y with hy | hy
  · exact .inl ⟨Int.mul_le_mul_of_nonneg_right h0 hy, Int.mul_le_mul_of_nonneg_right h1 hy⟩
  · exact .inr ⟨Int.mul_le_mul_of_nonpos_right h1 hy, Int.mul_le_mul_of_nonpos_right h0 hy⟩
theorem t_in {p q x : Int} (y : Int) (h0 : p ≤ x) (h1 : x ≤ q) : tL p q y ≤ x * y ∧ x * y ≤ tH p q y := by
  have := seg_mul y h0 h1
  unfold tL tH
  omega
theorem t_eq (x y : Int) : tL x x y = x * y ∧ tH x x y = x * y := by unfold tL tH; omega
/-- the first of two ends that the room leaves, and the second one; R, K (for d), L (for q), F, speed, room, greatest current, span of q -/
def lostL (R q0 q1 : Int) : Int := tL (sL q0 q1) (sH q0 q1) R / 1000
def lostH (R q0 q1 : Int) : Int := tH (sL q0 q1) (sH q0 q1) R / 1000
def turnL (L w q0 q1 : Int) : Int := tL (sL q0 q1) (sH q0 q1) (w * L) / 1000000
def turnH (L w q0 q1 : Int) : Int := tH (sL q0 q1) (sH q0 q1) (w * L) / 1000000
def wLo (R K L F w m b q0 q1 : Int) : Int :=
  max (max (0 - b) (btL R 1000 (turnL L w q0 q1 - m) (turnH L w q0 q1 + m))) (btL (w * K) 1000000 (0 - m - lostH R q0 q1 - w * F) (m - lostL R q0 q1 - w * F))
def wHi (R K L F w m b q0 q1 : Int) : Int :=
  min (min 0 (btH R 1000 (turnL L w q0 q1 - m) (turnH L w q0 q1 + m))) (btH (w * K) 1000000 (0 - m - lostH R q0 q1 - w * F) (m - lostL R q0 q1 - w * F))
/-- the inner voltages -/
def vD (R L d q w : Int) : Int := 0 - R * d / 1000 + w * L * q / 1000000
def vQ (R K F d q w : Int) : Int := 0 - R * q / 1000 - w * K * d / 1000000 - w * F
def Fits (R K L F w m d q : Int) : Prop := (0 - m ≤ vD R L d q w ∧ vD R L d q w ≤ m) ∧ (0 - m ≤ vQ R K F d q w ∧ vQ R K F d q w ≤ m)
theorem fits_iff {R K L F w m b q d : Int} (h0 : 0 - b ≤ d) (h1 : d ≤ 0) (hb : b ≤ 1048576) : Fits R K L F w m d q ↔ (wLo R K L F w m b q q ≤ d ∧ d ≤ wHi R K L F w m b q q) := by
  unfold Fits wLo wHi vD vQ turnL turnH lostL lostH
  obtain ⟨s0, s1⟩ := s_eq (Int.le_refl q)
  rw [s0, s1, (t_eq q R).1, (t_eq q R).2, (t_eq q (w * L)).1, (t_eq q (w * L)).2]
  have a := bt_iff (k := R) (n := 1000) (l := q * (w * L) / 1000000 - m) (h := q * (w * L) / 1000000 + m) (x := d) (by decide) (by omega) (by omega)
  have c := bt_iff (k := w * K) (n := 1000000) (l := 0 - m - q * R / 1000 - w * F) (h := m - q * R / 1000 - w * F) (x := d) (by decide) (by omega) (by omega)
  rw [Int.mul_comm q R] at c ⊢
  rw [Int.mul_comm q (w * L)] at a ⊢
  generalize btL R 1000 (w * L * q / 1000000 - m) (w * L * q / 1000000 + m) = aL at *
  generalize btH R 1000 (w * L * q / 1000000 - m) (w * L * q / 1000000 + m) = aH at *
  generalize btL (w * K) 1000000 (0 - m - R * q / 1000 - w * F) (m - R * q / 1000 - w * F) = cL at *
  generalize btH (w * K) 1000000 (0 - m - R * q / 1000 - w * F) (m - R * q / 1000 - w * F) = cH at *
  generalize R * d / 1000 = x at *
  generalize w * L * q / 1000000 = y at *
  generalize R * q / 1000 = z at *
  generalize w * K * d / 1000000 = u at *
  generalize w * F = v at *
  omega
/-- for several currents: not less than any of their weakenings -/
theorem w_wide {R K L F w m b q0 q1 q : Int} (hm : 0 ≤ m) (h0 : q0 ≤ q) (h1 : q ≤ q1) (hb : 0 ≤ b) (hb1 : b ≤ 1048576) (h : wLo R K L F w m b q q ≤ wHi R K L F w m b q q) :
    wLo R K L F w m b q0 q1 ≤ wLo R K L F w m b q q ∧ wHi R K L F w m b q q ≤ wHi R K L F w m b q0 q1 := by
  -- the greatest one fits, so that the empty case is out
  have hd0 : 0 - b ≤ wHi R K L F w m b q q := by
    refine Int.le_trans ?_ h
    unfold wLo; omega
  have hd1 : wHi R K L F w m b q q ≤ 0 := by unfold wHi; omega
  have hf := (fits_iff (R := R) (K := K) (L := L) (F := F) (w := w) (m := m) (b := b) (q := q) (d := wHi R K L F w m b q q) hd0 hd1 hb1).2 ⟨h, Int.le_refl _⟩
  obtain ⟨d, hd0, hd1, hf⟩ : ∃ d, 0 - b ≤ d ∧ d ≤ 0 ∧ Fits R K L F w m d q := ⟨_, hd0, hd1, hf⟩
  unfold Fits vD vQ at hf
  unfold wLo wHi turnL turnH lostL lostH
  obtain ⟨s0, s1⟩ := s_eq (Int.le_refl q)
  obtain ⟨s2, s3⟩ := s_eq (show q0 ≤ q1 by omega)
  rw [s0, s1, s2, s3, (t_eq q R).1, (t_eq q R).2, (t_eq q (w * L)).1, (t_eq q (w * L)).2]
  obtain ⟨r0, r1⟩ := t_in R h0 h1
  obtain ⟨l0, l1⟩ := t_in (w * L) h0 h1
  have r0' := fl_mono (k := 1000) (by decide) r0
  have r1' := fl_mono (k := 1000) (by decide) r1
  have l0' := fl_mono (k := 1000000) (by decide) l0
  have l1' := fl_mono (k := 1000000) (by decide) l1
  have c1 : R ≠ 0 ∨ (q * (w * L) / 1000000 - m ≤ 0 ∧ 0 ≤ q * (w * L) / 1000000 + m) := by
    by_cases hR : R = 0
    · right
      subst hR
      rw [Int.zero_mul, Int.zero_ediv, Int.mul_comm (w * L) q] at hf
      omega
    · exact .inl hR
  have c2 : w * K ≠ 0 ∨ (0 - m - q * R / 1000 - w * F ≤ 0 ∧ 0 ≤ m - q * R / 1000 - w * F) := by
    by_cases hK : w * K = 0
    · right
      rw [hK, Int.zero_mul, Int.zero_ediv, Int.mul_comm R q] at hf
      omega
    · exact .inl hK
  obtain ⟨u0, u1⟩ := bt_wide (k := R) (n := 1000) (l := q * (w * L) / 1000000 - m) (h := q * (w * L) / 1000000 + m) (l' := tL q0 q1 (w * L) / 1000000 - m) (h' := tH q0 q1 (w * L) / 1000000 + m) (by decide) (by omega) (by omega) c1
  obtain ⟨v0, v1⟩ := bt_wide (k := w * K) (n := 1000000) (l := 0 - m - q * R / 1000 - w * F) (h := m - q * R / 1000 - w * F) (l' := 0 - m - tH q0 q1 R / 1000 - w * F) (h' := m - tL q0 q1 R / 1000 - w * F) (by decide) (by omega) (by omega) c2
  generalize btL R 1000 (q * (w * L) / 1000000 - m) (q * (w * L) / 1000000 + m) = a1 at *
  generalize btH R 1000 (q * (w * L) / 1000000 - m) (q * (w * L) / 1000000 + m) = a2 at *
  generalize btL R 1000 (tL q0 q1 (w * L) / 1000000 - m) (tH q0 q1 (w * L) / 1000000 + m) = a3 at *
  generalize btH R 1000 (tL q0 q1 (w * L) / 1000000 - m) (tH q0 q1 (w * L) / 1000000 + m) = a4 at *
  generalize btL (w * K) 1000000 (0 - m - q * R / 1000 - w * F) (m - q * R / 1000 - w * F) = a5 at *
  generalize btH (w * K) 1000000 (0 - m - q * R / 1000 - w * F) (m - q * R / 1000 - w * F) = a6 at *
  generalize btL (w * K) 1000000 (0 - m - tH q0 q1 R / 1000 - w * F) (m - tL q0 q1 R / 1000 - w * F) = a7 at *
  generalize btH (w * K) 1000000 (0 - m - tH q0 q1 R / 1000 - w * F) (m - tL q0 q1 R / 1000 - w * F) = a8 at *
  clear hf c1 c2 r0 r1 l0 l1 r0' r1' l0' l1' h
  omega
/-- the weakening of a current, if there is one -/
def Has (R K L F w m b q0 q1 : Int) : Prop := wLo R K L F w m b q0 q1 ≤ wHi R K L F w m b q0 q1
instance (R K L F w m b q0 q1 : Int) : Decidable (Has R K L F w m b q0 q1) := by unfold Has; infer_instance
theorem has_bd {R K L F w m b q0 q1 : Int} (h : Has R K L F w m b q0 q1) : 0 - b ≤ wHi R K L F w m b q0 q1 ∧ wHi R K L F w m b q0 q1 ≤ 0 := by
  unfold Has at h
  constructor
  · refine Int.le_trans ?_ h
    unfold wLo; omega
  · unfold wHi; omega
/-- it fits, and nothing nearer to 0 does -/
theorem has_fits {R K L F w m b q : Int} (hb : b ≤ 1048576) (h : Has R K L F w m b q q) : Fits R K L F w m (wHi R K L F w m b q q) q ∧ ∀ d, wHi R K L F w m b q q < d → d ≤ 0 → ¬ Fits R K L F w m d q := by
  have hb2 := has_bd h
  refine ⟨(fits_iff hb2.1 hb2.2 hb).2 ⟨h, Int.le_refl _⟩, fun d h1 h2 h3 => ?_⟩
  have := (fits_iff (b := b) (by omega) h2 hb).1 h3
  omega
theorem no_fits {R K L F w m b q d : Int} (hb : b ≤ 1048576) (h : ¬ Has R K L F w m b q q) (h0 : 0 - b ≤ d) (h1 : d ≤ 0) : ¬ Fits R K L F w m d q := by
  intro h3
  have := (fits_iff (b := b) h0 h1 hb).1 h3
  unfold Has at h
  omega
/-- a current that is possible -/
def Good (R K L F w m b q : Int) : Prop := Has R K L F w m b q q ∧ wHi R K L F w m b q q * wHi R K L F w m b q q + q * q ≤ b * b
instance (R K L F w m b q : Int) : Decidable (Good R K L F w m b q) := by unfold Good; infer_instance
/-- the greatest number up to q of which something is true, among n -/
def topQ (g : Int → Prop) [DecidablePred g] : Nat → Int → Option Int
  | 0, _ => none
  | n + 1, q => if g q then some q else topQ g n (q - 1)
theorem topQ_none {g : Int → Prop} [DecidablePred g] : ∀ {n : Nat} {q : Int}, (∀ x, q - n < x → x ≤ q → ¬ g x) → topQ g n q = none
  | 0, q, h => rfl
  | n + 1, q, h => by
      rw [topQ, if_neg (h q (by omega) (Int.le_refl _))]
      exact topQ_none fun x h1 h2 => h x (by omega) (by omega)
theorem topQ_app {g : Int → Prop} [DecidablePred g] : ∀ (n m : Nat) (q : Int), topQ g (n + m) q = (topQ g n q).orElse fun _ => topQ g m (q - n)
  | 0, m, q => by simp [topQ]
  | n + 1, m, q => by
      rw [show n + 1 + m = (n + m) + 1 by omega]
      simp only [topQ]
      by_cases hg : g q
      · rw [if_pos hg, if_pos hg]; rfl
      · rw [if_neg hg, if_neg hg, topQ_app n m (q - 1)]
        congr 1
        funext _
        congr 1
        omega
theorem topQ_some {g : Int → Prop} [DecidablePred g] : ∀ {n : Nat} {q x : Int}, topQ g n q = some x → g x ∧ q - n < x ∧ x ≤ q ∧ ∀ y, x < y → y ≤ q → ¬ g y
  | 0, q, x, h => by cases h
  | n + 1, q, x, h => by
      rw [topQ] at h
      split at h
      · rename_i hg
        cases h
        exact ⟨hg, by omega, Int.le_refl _, fun y h1 h2 => by omega⟩
      · rename_i hg
        obtain ⟨h1, h2, h3, h4⟩ := topQ_some h
        refine ⟨h1, by omega, by omega, fun y h5 h6 => ?_⟩
        by_cases hy : y = q
        · subst hy; exact hg
        · exact h4 y h5 (by omega)
theorem topQ_none_iff {g : Int → Prop} [DecidablePred g] : ∀ {n : Nat} {q : Int}, topQ g n q = none → ∀ x, q - n < x → x ≤ q → ¬ g x
  | 0, q, h, x, h1, h2 => by omega
  | n + 1, q, h, x, h1, h2 => by
      rw [topQ] at h
      split at h
      · cases h
      · rename_i hg
        by_cases hx : x = q
        · subst hx; exact hg
        · exact topQ_none_iff h x (by omega) (by omega)
def top (R K L F w m b l h : Int) : Option Int := topQ (Good R K L F w m b) (h - l + 1).toNat h
theorem top_split {R K L F w m b l h c : Int} (h0 : l ≤ c) (h1 : c < h) : top R K L F w m b l h = (top R K L F w m b (c + 1) h).orElse fun _ => top R K L F w m b l c := by
  unfold top
  rw [show (h - l + 1).toNat = (h - (c + 1) + 1).toNat + (c - l + 1).toNat by omega, topQ_app]
  congr 1
  funext _
  congr 1
  omega
theorem top_one {R K L F w m b q : Int} : top R K L F w m b q q = if Good R K L F w m b q then some q else none := by
  unfold top
  rw [show (q - q + 1).toNat = 1 by omega]
  simp only [topQ]
theorem top_cut {R K L F w m b l h : Int} (hm : 0 ≤ m) (hl : 0 ≤ l) (hb : 0 ≤ b) (hb1 : b ≤ 1048576) (hc : ¬ Has R K L F w m b l h ∨ b * b < wHi R K L F w m b l h * wHi R K L F w m b l h + l * l) : top R K L F w m b l h = none := by
  refine topQ_none fun x h1 h2 hg => ?_
  obtain ⟨g1, g2⟩ := hg
  have hx0 : l ≤ x := by omega
  obtain ⟨w0, w1⟩ := w_wide (q0 := l) (q1 := h) hm hx0 h2 hb hb1 g1
  have b1 := has_bd g1
  have hH : Has R K L F w m b l h := by unfold Has at g1 ⊢; omega
  rcases hc with hc | hc
  · exact hc hH
  · have b2 := has_bd hH
    have e1 : wHi R K L F w m b l h * wHi R K L F w m b l h ≤ wHi R K L F w m b x x * wHi R K L F w m b x x := by
      have a1 : (0 - wHi R K L F w m b l h) * (0 - wHi R K L F w m b l h) ≤ (0 - wHi R K L F w m b x x) * (0 - wHi R K L F w m b x x) :=
        Int.mul_le_mul (by omega) (by omega) (by omega) (by omega)
      have n : ∀ z : Int, (0 - z) * (0 - z) = z * z := fun z => by rw [Int.zero_sub, Int.neg_mul_neg]
      rw [n, n] at a1
      exact a1
    have e2 : l * l ≤ x * x := Int.mul_le_mul hx0 hx0 hl (by omega)
    omega
def stH (R K L F w m b l h : Int) : Int := if (top R K L F w m b l h).isSome then 1 else 0
def stQ (R K L F w m b l h : Int) : Int := (top R K L F w m b l h).getD 0
def stD (R K L F w m b l h : Int) : Int := match top R K L F w m b l h with
  | some q => wHi R K L F w m b q q
  | none => 0
def waH (R K L F w m b q0 q1 : Int) : Int := if Has R K L F w m b q0 q1 then 1 else 0
def waD (R K L F w m b q0 q1 : Int) : Int := wHi R K L F w m b q0 q1

def waZ (R K L F w m b q0 q1 : Int) : Int := if Has R K L F w m b q0 q1 then wHi R K L F w m b q0 q1 else 0
theorem stH_some {R K L F w m b l h x : Int} (e : top R K L F w m b l h = some x) : stH R K L F w m b l h = 1 ∧ stQ R K L F w m b l h = x ∧ stD R K L F w m b l h = wHi R K L F w m b x x := by
  unfold stH stQ stD; rw [e]; exact ⟨rfl, rfl, rfl⟩
theorem stH_none {R K L F w m b l h : Int} (e : top R K L F w m b l h = none) : stH R K L F w m b l h = 0 ∧ stQ R K L F w m b l h = 0 ∧ stD R K L F w m b l h = 0 := by
  unfold stH stQ stD; rw [e]; exact ⟨rfl, rfl, rfl⟩
theorem st_same {R K L F w m b l h l' h' : Int} (e : top R K L F w m b l h = top R K L F w m b l' h') : stH R K L F w m b l h = stH R K L F w m b l' h' ∧ stQ R K L F w m b l h = stQ R K L F w m b l' h' ∧ stD R K L F w m b l h = stD R K L F w m b l' h' := by
  unfold stH stQ stD; rw [e]; exact ⟨rfl, rfl, rfl⟩
theorem top_in {R K L F w m b l h x : Int} (e : top R K L F w m b l h = some x) : Good R K L F w m b x ∧ l ≤ x ∧ x ≤ h ∧ ∀ y, x < y → y ≤ h → ¬ Good R K L F w m b y := by
  obtain ⟨a, b, c, d⟩ := topQ_some e
  exact ⟨a, by omega, c, d⟩
theorem top_out {R K L F w m b l h : Int} (e : top R K L F w m b l h = none) : ∀ y, l ≤ y → y ≤ h → ¬ Good R K L F w m b y :=
  fun y h1 h2 => topQ_none_iff e y (by omega) h2
theorem st_bd {R K L F w m b l h : Int} (hb : 0 ≤ b) (hl : 0 ≤ l) (hh : 0 ≤ h) : (0 ≤ stQ R K L F w m b l h ∧ stQ R K L F w m b l h ≤ h) ∧ (0 - b ≤ stD R K L F w m b l h ∧ stD R K L F w m b l h ≤ 0) ∧ (0 ≤ stH R K L F w m b l h ∧ stH R K L F w m b l h ≤ 1) := by
  cases e : top R K L F w m b l h with
  | none => obtain ⟨a1, a2, a3⟩ := stH_none e; omega
  | some x =>
    obtain ⟨a1, a2, a3⟩ := stH_some e
    obtain ⟨g, c, d, _⟩ := top_in e
    have := has_bd g.1
    omega
theorem waZ_bd {R K L F w m b p q : Int} (hb : 0 ≤ b) : 0 - b ≤ waZ R K L F w m b p q ∧ waZ R K L F w m b p q ≤ 0 := by
  unfold waZ
  split
  · rename_i h; exact has_bd h
  · omega
theorem waH_bd {R K L F w m b p q : Int} : 0 ≤ waH R K L F w m b p q ∧ waH R K L F w m b p q ≤ 1 := by unfold waH; split <;> omega
theorem waH_iff {R K L F w m b p q : Int} : waH R K L F w m b p q ≠ 0 ↔ Has R K L F w m b p q := by unfold waH; split <;> simp [*]
theorem waH_no {R K L F w m b p q : Int} : waH R K L F w m b p q = 0 ↔ ¬ Has R K L F w m b p q := by unfold waH; split <;> simp [*]
def okM (R K L F c d e f g h : Int) : Prop := (0 ≤ R ∧ R ≤ 1048576) ∧ (1 ≤ K ∧ K ≤ 4194304) ∧ (1 ≤ L ∧ L ≤ 4194304) ∧ (0 ≤ F ∧ F ≤ 4194304) ∧ (1 ≤ c ∧ c ≤ 16) ∧ (1 ≤ d ∧ d ≤ 1000) ∧ (0 ≤ e ∧ e ≤ 1048576) ∧ (0 ≤ f ∧ f ≤ 1048576) ∧ (1 ≤ g ∧ g ≤ 1048576) ∧ (0 ≤ h ∧ h ≤ 16384)
instance (R K L F c d e f g h : Int) : Decidable (okM R K L F c d e f g h) := by unfold okM; infer_instance
def okS (w u b : Int) : Prop := (-16384 ≤ w ∧ w ≤ 16384) ∧ (1 ≤ u ∧ u ≤ 1073741824) ∧ (0 ≤ b ∧ b ≤ 1048576)
instance (w u b : Int) : Decidable (okS w u b) := by unfold okS; infer_instance
def okN (q w u b : Int) : Prop := (-1048576 ≤ q ∧ q ≤ 1048576) ∧ okS w u b
instance (q w u b : Int) : Decidable (okN q w u b) := by unfold okN; infer_instance
def okI (x q w : Int) : Prop := (-1048576 ≤ x ∧ x ≤ 1048576) ∧ (-1048576 ≤ q ∧ q ≤ 1048576) ∧ (-16384 ≤ w ∧ w ≤ 16384)
instance (x q w : Int) : Decidable (okI x q w) := by unfold okI; infer_instance
def rm (u : Int) : Int := u * 26755 / 65536
theorem rm_bd {u : Int} (h0 : 1 ≤ u) (h1 : u ≤ 1073741824) : 0 ≤ rm u ∧ rm u ≤ 1073741824 := by unfold rm; omega
def weakV (R K L F c d e f g h q w u b : Int) : Int := if okM R K L F c d e f g h then (if okN q w u b then waZ R K L F w (rm u) b q q else 0) else 0
def weakE (R K L F c d e f g h q w u b : Int) : Int := if okM R K L F c d e f g h then (if okN q w u b then (if waH R K L F w (rm u) b q q = 0 then 17 else 0) else 3) else 2
def strQ (R K L F c d e f g h w u b : Int) : Int := if okM R K L F c d e f g h then (if okS w u b then stQ R K L F w (rm u) b 0 b else 0) else 0
def strD (R K L F c d e f g h w u b : Int) : Int := if okM R K L F c d e f g h then (if okS w u b then stD R K L F w (rm u) b 0 b else 0) else 0
def strE (R K L F c d e f g h w u b : Int) : Int := if okM R K L F c d e f g h then (if okS w u b then (if stH R K L F w (rm u) b 0 b = 0 then 17 else 0) else 3) else 2
def innA (R K L F c d e f g h x q w : Int) : Int := if okM R K L F c d e f g h then (if okI x q w then vD R L x q w else 0) else 0
def innB (R K L F c d e f g h x q w : Int) : Int := if okM R K L F c d e f g h then (if okI x q w then vQ R K F x q w else 0) else 0
def innE (R K L F c d e f g h x q w : Int) : Int := if okM R K L F c d e f g h then (if okI x q w then 0 else 3) else 2
def roomV (u : Int) : Int := if 1 ≤ u ∧ u ≤ 1073741824 then rm u else 0
def roomE (u : Int) : Int := if 1 ≤ u ∧ u ≤ 1073741824 then 0 else 3
def wfn : Nat → List Int → Int
  | 1, [a, b] => a / b
  | 3, [k, n, l, h] => btL k n l h
  | 4, [k, n, l, h] => btH k n l h
  | 5, [R, K, L, F, w, m, b, p, q] => waD R K L F w m b p q
  | 6, [R, K, L, F, w, m, b, p, q] => waH R K L F w m b p q
  | 7, [R, K, L, F, w, m, b, p, q] => stQ R K L F w m b p q
  | 8, [R, K, L, F, w, m, b, p, q] => stD R K L F w m b p q
  | 9, [R, K, L, F, w, m, b, p, q] => stH R K L F w m b p q
  | 20, [d, R, K, L, F, w, m, b, p, q] => waH R K L F w m b p q
  | 21, [d, R, K, L, F, w, m, b, p, q] => waZ R K L F w m b p q
  | 22, [R, K, L, F, w, m, b, p, q] => waZ R K L F w m b p q
  | 30, [x, R, K, L, F, w, m, b] => stH R K L F w m b 0 b
  | 31, [x, R, K, L, F, w, m, b] => stQ R K L F w m b 0 b
  | 32, [x, R, K, L, F, w, m, b] => stD R K L F w m b 0 b
  | 40, [R, K, L, F, c, d, e, f, g, h, q, w, u, b] => weakV R K L F c d e f g h q w u b
  | 41, [R, K, L, F, c, d, e, f, g, h, q, w, u, b] => weakE R K L F c d e f g h q w u b
  | 42, [R, K, L, F, c, d, e, f, g, h, w, u, b] => strQ R K L F c d e f g h w u b
  | 43, [R, K, L, F, c, d, e, f, g, h, w, u, b] => strD R K L F c d e f g h w u b
  | 44, [R, K, L, F, c, d, e, f, g, h, w, u, b] => strE R K L F c d e f g h w u b
  | 45, [R, K, L, F, c, d, e, f, g, h, x, q, w] => innA R K L F c d e f g h x q w
  | 46, [R, K, L, F, c, d, e, f, g, h, x, q, w] => innB R K L F c d e f g h x q w
  | 47, [R, K, L, F, c, d, e, f, g, h, x, q, w] => innE R K L F c d e f g h x q w
  | 48, [u] => roomV u
  | 49, [u] => roomE u
  | _, _ => 0
def GoodF (fn : Nat → List Int → Int) : Prop := ∀ k a, k < 5000 → fn k a = Go.SX.rowed wfn k a
theorem q1 {fn : Nat → List Int → Int} (h_ : GoodF fn) (a b : Int) : fn 1 [a, b] = a / b := (h_ _ _ (by decide)).trans rfl
theorem q3 {fn : Nat → List Int → Int} (h_ : GoodF fn) (k n l h : Int) : fn 3 [k, n, l, h] = btL k n l h := (h_ _ _ (by decide)).trans rfl
theorem q4 {fn : Nat → List Int → Int} (h_ : GoodF fn) (k n l h : Int) : fn 4 [k, n, l, h] = btH k n l h := (h_ _ _ (by decide)).trans rfl
theorem q5 {fn : Nat → List Int → Int} (h_ : GoodF fn) (R K L F w m b p q : Int) : fn 5 [R, K, L, F, w, m, b, p, q] = waD R K L F w m b p q := (h_ _ _ (by decide)).trans rfl
theorem q6 {fn : Nat → List Int → Int} (h_ : GoodF fn) (R K L F w m b p q : Int) : fn 6 [R, K, L, F, w, m, b, p, q] = waH R K L F w m b p q := (h_ _ _ (by decide)).trans rfl
theorem q7 {fn : Nat → List Int → Int} (h_ : GoodF fn) (R K L F w m b p q : Int) : fn 7 [R, K, L, F, w, m, b, p, q] = stQ R K L F w m b p q := (h_ _ _ (by decide)).trans rfl
theorem q8 {fn : Nat → List Int → Int} (h_ : GoodF fn) (R K L F w m b p q : Int) : fn 8 [R, K, L, F, w, m, b, p, q] = stD R K L F w m b p q := (h_ _ _ (by decide)).trans rfl
theorem q9 {fn : Nat → List Int → Int} (h_ : GoodF fn) (R K L F w m b p q : Int) : fn 9 [R, K, L, F, w, m, b, p, q] = stH R K L F w m b p q := (h_ _ _ (by decide)).trans rfl
theorem q20 {fn : Nat → List Int → Int} (h_ : GoodF fn) (d R K L F w m b p q : Int) : fn 20 [d, R, K, L, F, w, m, b, p, q] = waH R K L F w m b p q := (h_ _ _ (by decide)).trans rfl
theorem q21 {fn : Nat → List Int → Int} (h_ : GoodF fn) (d R K L F w m b p q : Int) : fn 21 [d, R, K, L, F, w, m, b, p, q] = waZ R K L F w m b p q := (h_ _ _ (by decide)).trans rfl
theorem q22 {fn : Nat → List Int → Int} (h_ : GoodF fn) (R K L F w m b p q : Int) : fn 22 [R, K, L, F, w, m, b, p, q] = waZ R K L F w m b p q := (h_ _ _ (by decide)).trans rfl
theorem q30 {fn : Nat → List Int → Int} (h_ : GoodF fn) (x R K L F w m b : Int) : fn 30 [x, R, K, L, F, w, m, b] = stH R K L F w m b 0 b := (h_ _ _ (by decide)).trans rfl
theorem q31 {fn : Nat → List Int → Int} (h_ : GoodF fn) (x R K L F w m b : Int) : fn 31 [x, R, K, L, F, w, m, b] = stQ R K L F w m b 0 b := (h_ _ _ (by decide)).trans rfl
theorem q32 {fn : Nat → List Int → Int} (h_ : GoodF fn) (x R K L F w m b : Int) : fn 32 [x, R, K, L, F, w, m, b] = stD R K L F w m b 0 b := (h_ _ _ (by decide)).trans rfl
theorem q40 {fn : Nat → List Int → Int} (h_ : GoodF fn) (R K L F c d e f g h q w u b : Int) : fn 40 [R, K, L, F, c, d, e, f, g, h, q, w, u, b] = weakV R K L F c d e f g h q w u b := (h_ _ _ (by decide)).trans rfl
theorem q41 {fn : Nat → List Int → Int} (h_ : GoodF fn) (R K L F c d e f g h q w u b : Int) : fn 41 [R, K, L, F, c, d, e, f, g, h, q, w, u, b] = weakE R K L F c d e f g h q w u b := (h_ _ _ (by decide)).trans rfl
theorem q42 {fn : Nat → List Int → Int} (h_ : GoodF fn) (R K L F c d e f g h w u b : Int) : fn 42 [R, K, L, F, c, d, e, f, g, h, w, u, b] = strQ R K L F c d e f g h w u b := (h_ _ _ (by decide)).trans rfl
theorem q43 {fn : Nat → List Int → Int} (h_ : GoodF fn) (R K L F c d e f g h w u b : Int) : fn 43 [R, K, L, F, c, d, e, f, g, h, w, u, b] = strD R K L F c d e f g h w u b := (h_ _ _ (by decide)).trans rfl
theorem q44 {fn : Nat → List Int → Int} (h_ : GoodF fn) (R K L F c d e f g h w u b : Int) : fn 44 [R, K, L, F, c, d, e, f, g, h, w, u, b] = strE R K L F c d e f g h w u b := (h_ _ _ (by decide)).trans rfl
theorem q45 {fn : Nat → List Int → Int} (h_ : GoodF fn) (R K L F c d e f g h x q w : Int) : fn 45 [R, K, L, F, c, d, e, f, g, h, x, q, w] = innA R K L F c d e f g h x q w := (h_ _ _ (by decide)).trans rfl
theorem q46 {fn : Nat → List Int → Int} (h_ : GoodF fn) (R K L F c d e f g h x q w : Int) : fn 46 [R, K, L, F, c, d, e, f, g, h, x, q, w] = innB R K L F c d e f g h x q w := (h_ _ _ (by decide)).trans rfl
theorem q47 {fn : Nat → List Int → Int} (h_ : GoodF fn) (R K L F c d e f g h x q w : Int) : fn 47 [R, K, L, F, c, d, e, f, g, h, x, q, w] = innE R K L F c d e f g h x q w := (h_ _ _ (by decide)).trans rfl
theorem q48 {fn : Nat → List Int → Int} (h_ : GoodF fn) (u : Int) : fn 48 [u] = roomV u := (h_ _ _ (by decide)).trans rfl
theorem q49 {fn : Nat → List Int → Int} (h_ : GoodF fn) (u : Int) : fn 49 [u] = roomE u := (h_ _ _ (by decide)).trans rfl
theorem GoodF.rows {fn : Nat → List Int → Int} (h : GoodF fn) : Go.SX.RowFn fn := fun k a h1 h2 => (h k a h2).trans (Go.SX.rowed_rows _ k a h1 h2)
theorem go_fl {n d : Int} (hd : 1 ≤ d) : (if n.tmod d < 0 then n.tdiv d - 1 else n.tdiv d) = n / d := by
  rw [Int.tdiv_eq_ediv, Int.tmod_eq_emod]
  have h2 := Int.emod_nonneg n (b := d) (by omega)
  have h3 := Int.emod_lt_of_pos n (b := d) (by omega)
  have hs : d.sign = 1 := Int.sign_eq_one_of_pos (by omega)
  rw [hs]
  by_cases h : 0 ≤ n ∨ d ∣ n
  · simp only [if_pos h]; rw [if_neg (by omega)]; omega
  · simp only [if_neg h]; rw [if_pos (by omega)]; omega
theorem fl_tdiv {n d : Int} (hd : 1 ≤ d) : n.tdiv d - 1 ≤ n / d ∧ n / d ≤ n.tdiv d := by
  have := go_fl (n := n) hd
  split at this <;> omega
theorem fl_bd {n d : Int} (hd : 1 ≤ d) (h0 : -9223372036854775808 ≤ n) (h1 : n ≤ 9223372036854775807) : -9223372036854775808 ≤ n / d ∧ n / d ≤ 9223372036854775807 := by
  refine ⟨?_, ?_⟩
  · rw [Int.le_ediv_iff_mul_le (by omega)]
    have := Int.mul_le_mul_of_nonpos_left (show (-9223372036854775808 : Int) ≤ 0 by omega) hd
    omega
  · have : n / d < 9223372036854775808 := (Int.ediv_lt_iff_lt_mul (by omega)).2 (by
      have := Int.mul_le_mul_of_nonneg_left hd (show (0 : Int) ≤ 9223372036854775808 by omega)
      omega)
    omega
theorem fl_max {n d : Int} (hd : 1 ≤ d) : min n 0 ≤ n / d ∧ n / d ≤ max n 0 := by
  rw [le_fl hd, fl_le hd]
  have a := Int.mul_le_mul_of_nonpos_left (show min n 0 ≤ 0 by omega) hd
  have b := Int.mul_le_mul_of_nonneg_left hd (show 0 ≤ max n 0 + 1 by omega)
  rw [Int.mul_one] at a b
  omega
theorem pr_bd {x n A : Int} (h0 : 0 - A ≤ x) (h1 : x ≤ A) (hA : 0 ≤ A) (h2 : 0 ≤ n) (h3 : n ≤ 1048576) : 0 - A * 1048576 ≤ x * n ∧ x * n ≤ A * 1048576 := by
  have a := Int.mul_le_mul_of_nonneg_right h1 h2
  have b := Int.mul_le_mul_of_nonneg_right h0 h2
  have c := Int.mul_le_mul_of_nonneg_left h3 hA
  rw [Int.sub_mul, Int.zero_mul] at b
  omega
theorem bt_bd {k n l h : Int} (hn : 1 ≤ n ∧ n ≤ 1000000) (hl : -274877906944 ≤ l ∧ l ≤ 274877906944) (hh : -274877906944 ≤ h ∧ h ≤ 274877906944) :
    (-1152921504606846976 ≤ btL k n l h ∧ btL k n l h ≤ 1152921504606846976) ∧ (-1152921504606846976 ≤ btH k n l h ∧ btH k n l h ≤ 1152921504606846976) := by
  have a := pr_bd (x := l) (n := n) (A := 274877906945) (by omega) (by omega) (by decide) (by omega) (by omega)
  have c := pr_bd (x := h + 1) (n := n) (A := 274877906945) (by omega) (by omega) (by decide) (by omega) (by omega)
  unfold btL btH
  by_cases hk : k < 0
  · simp only [if_pos hk]
    have e := fl_max (n := (h + 1) * n - 1) (d := 0 - k) (by omega)
    have f := fl_max (n := 0 - l * n) (d := 0 - k) (by omega)
    omega
  · by_cases hp : 0 < k
    · simp only [if_neg hk, if_pos hp]
      have e := fl_max (n := (h + 1) * n - 1) (d := k) (by omega)
      have f := fl_max (n := 0 - l * n) (d := k) (by omega)
      omega
    · simp only [if_neg hk, if_neg hp]
      split <;> omega
end WK
end Go.Proofs.Ytgbfaomlmpfbfaa
