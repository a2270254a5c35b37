/- Plain arithmetic: the two digits of a long division (no program in sight). -/
namespace Go.Proofs.Ytlaalhbicblbeaa.KM

/-- Knuth's D3: the estimate's invariant. -/
structure Inv (u n y1 y0 q r : Nat) : Prop where
  sum : r + q * y1 = u
  big : u * 4294967296 + n < (q + 1) * (y1 * 4294967296 + y0)

theorem inv_init {u n y1 y0 : Nat} (hy : 0 < y1) (hn : n < 4294967296) : Inv u n y1 y0 (u / y1) (u - u / y1 * y1) := by
  have h1 : u / y1 * y1 ≤ u := Nat.div_mul_le_self u y1
  have h2 : u < (u / y1 + 1) * y1 := by
    have := Nat.lt_div_mul_add (a := u) hy
    rw [Nat.add_mul, Nat.one_mul]; exact this
  refine ⟨by omega, ?_⟩
  generalize u / y1 = q at h1 h2 ⊢
  have h3 : (q + 1) * (y1 * 4294967296 + y0) = ((q + 1) * y1) * 4294967296 + (q + 1) * y0 := by
    rw [Nat.mul_add, Nat.mul_assoc]
  rw [h3]
  generalize (q + 1) * y1 = p at h2 ⊢
  omega

theorem q_init_le {u y1 y0 : Nat} (hy1 : 2147483648 ≤ y1) (hu : u < y1 * 4294967296 + y0) (hy0 : y0 < 4294967296) : u / y1 ≤ 4294967297 := by
  have h1 : u / y1 * y1 ≤ u := Nat.div_mul_le_self u y1
  apply Nat.le_of_lt_succ
  apply Nat.lt_of_mul_lt_mul_right (a := y1)
  have : Nat.succ 4294967297 * y1 = y1 * 4294967296 + 2 * y1 := by omega
  omega

theorem inv_dec {u n y1 y0 q r : Nat} (h : Inv u n y1 y0 q r) (hn : n < 4294967296) (hu : u < y1 * 4294967296 + y0)
    (hc : 4294967296 ≤ q ∨ 4294967296 * r + n < q * y0) : 1 ≤ q ∧ Inv u n y1 y0 (q - 1) (r + y1) := by
  obtain ⟨hs, hb⟩ := h
  have hq : 1 ≤ q := by
    rcases hc with hc | hc
    · omega
    · rcases Nat.eq_zero_or_pos q with h0 | h0
      · subst h0; simp at hc
      · exact h0
  refine ⟨hq, ?_, ?_⟩
  · have : (q - 1) * y1 = q * y1 - y1 := by rw [Nat.sub_mul, Nat.one_mul]
    have h2 : y1 ≤ q * y1 := Nat.le_mul_of_pos_left _ hq
    omega
  · rw [Nat.sub_add_cancel hq]
    have h3 : q * (y1 * 4294967296 + y0) = (q * y1) * 4294967296 + q * y0 := by rw [Nat.mul_add, Nat.mul_assoc]
    rcases hc with hc | hc
    · have h4 : 4294967296 * (y1 * 4294967296 + y0) ≤ q * (y1 * 4294967296 + y0) := Nat.mul_le_mul_right _ hc
      omega
    · rw [h3]
      generalize q * y1 = p at *
      generalize q * y0 = s at *
      omega

theorem inv_exit {u n y1 y0 q r : Nat} (h : Inv u n y1 y0 q r) (hc : q * y0 ≤ 4294967296 * r + n) :
    q * (y1 * 4294967296 + y0) ≤ u * 4294967296 + n := by
  obtain ⟨hs, _⟩ := h
  rw [Nat.mul_add, ← Nat.mul_assoc]
  generalize q * y1 = p at *
  generalize q * y0 = s at *
  omega

theorem inv_break {u n y1 y0 q r : Nat} (h : Inv u n y1 y0 q r) (hy0 : y0 < 4294967296) (hq : q ≤ 4294967296) (hr : 4294967296 ≤ r) :
    q * (y1 * 4294967296 + y0) ≤ u * 4294967296 + n := by
  refine inv_exit h ?_
  have h1 : q * y0 ≤ 4294967296 * y0 := Nat.mul_le_mul_right _ hq
  omega

theorem div_of (D y q : Nat) (hle : q * y ≤ D) (hb : D < (q + 1) * y) : q = D / y := (Nat.div_eq_of_lt_le hle hb).symm

theorem inv_quo {u n y1 y0 q r : Nat} (h : Inv u n y1 y0 q r) (hle : q * (y1 * 4294967296 + y0) ≤ u * 4294967296 + n) :
    q = (u * 4294967296 + n) / (y1 * 4294967296 + y0) := div_of (u * 4294967296 + n) (y1 * 4294967296 + y0) q hle h.big

theorem two_digits_aux (D n0 y q1 q0 B : Nat) (hy : 0 < y) (h1 : q1 = D / y) (h0 : q0 = ((D - q1 * y) * B + n0) / y) :
    q1 * B + q0 = (D * B + n0) / y ∧ (D - q1 * y) * B + n0 - q0 * y = (D * B + n0) % y := by
  have e1 : D - q1 * y = D % y := by
    have := Nat.div_add_mod D y
    rw [← h1, Nat.mul_comm] at this
    omega
  rw [e1] at h0 ⊢
  have e0 : D % y * B + n0 - q0 * y = (D % y * B + n0) % y := by
    have := Nat.div_add_mod (D % y * B + n0) y
    rw [← h0, Nat.mul_comm] at this
    omega
  rw [e0]
  have eD : D * B + n0 = (D % y * B + n0) + y * (q1 * B) := by
    have := Nat.div_add_mod D y
    rw [← h1] at this
    have h2 : D * B = (y * q1 + D % y) * B := by rw [this]
    rw [Nat.add_mul, Nat.mul_assoc] at h2
    omega
  rw [eD, Nat.add_mul_div_left _ _ hy, Nat.add_mul_mod_self_left, h0]
  exact ⟨by omega, rfl⟩

/-- two digits: the quotient and the rest of (u 2^64 + n1 2^32 + n0) by y. -/
theorem two_digits {u n1 n0 y q1 q0 : Nat} (hy : 0 < y) (h1 : q1 = (u * 4294967296 + n1) / y) (h0 : q0 = ((u * 4294967296 + n1 - q1 * y) * 4294967296 + n0) / y) :
    q1 * 4294967296 + q0 = ((u * 4294967296 + n1) * 4294967296 + n0) / y ∧
    (u * 4294967296 + n1 - q1 * y) * 4294967296 + n0 - q0 * y = ((u * 4294967296 + n1) * 4294967296 + n0) % y :=
  two_digits_aux (u * 4294967296 + n1) n0 y q1 q0 4294967296 hy h1 h0

/-- the normalised division: what is shifted by s gives the same quotient; the rest is shifted. -/
theorem shifted_div (N y s : Nat) : (N * 2 ^ s) / (y * 2 ^ s) = N / y := Nat.mul_div_mul_right _ _ (Nat.two_pow_pos s)
theorem shifted_mod (N y s : Nat) : (N * 2 ^ s) % (y * 2 ^ s) / 2 ^ s = N % y := by
  rw [Nat.mul_mod_mul_right, Nat.mul_div_cancel _ (Nat.two_pow_pos s)]


theorem lo_split (lo s : Nat) (hs : s ≤ 64) : lo / 2 ^ (64 - s) * 18446744073709551616 + lo * 2 ^ s % 18446744073709551616 = lo * 2 ^ s := by
  have e : (18446744073709551616 : Nat) = 2 ^ (64 - s) * 2 ^ s := by
    rw [← Nat.pow_add, Nat.sub_add_cancel hs]
  have h1 : lo / 2 ^ (64 - s) = lo * 2 ^ s / 18446744073709551616 := by
    rw [e, Nat.mul_div_mul_right _ _ (Nat.two_pow_pos s)]
  rw [h1]
  have := Nat.div_add_mod (lo * 2 ^ s) 18446744073709551616
  generalize lo * 2 ^ s = p at *
  omega

/-- the shifted dividend, digit by digit, is the dividend times 2^s. -/
theorem shifted_num (hi lo s : Nat) (hs : s ≤ 64) :
    ((hi * 2 ^ s + lo / 2 ^ (64 - s)) * 4294967296 + lo * 2 ^ s % 18446744073709551616 / 4294967296) * 4294967296 + lo * 2 ^ s % 18446744073709551616 % 4294967296 = (hi * 18446744073709551616 + lo) * 2 ^ s := by
  have h1 := lo_split lo s hs
  have h2 := Nat.div_add_mod (lo * 2 ^ s % 18446744073709551616) 4294967296
  have h3 : (hi * 18446744073709551616 + lo) * 2 ^ s = hi * 2 ^ s * 18446744073709551616 + lo * 2 ^ s := by
    rw [Nat.add_mul, Nat.mul_right_comm]
  rw [h3]
  generalize lo * 2 ^ s % 18446744073709551616 = m at *
  generalize lo * 2 ^ s = p at *
  generalize lo / 2 ^ (64 - s) = t at *
  generalize hi * 2 ^ s = g at *
  generalize m / 4294967296 = a at *
  generalize m % 4294967296 = b at *
  clear h3
  have h4 : (g + t) * 4294967296 * 4294967296 = (g + t) * 18446744073709551616 := by rw [Nat.mul_assoc]
  rw [Nat.add_mul, h4, Nat.add_mul, ← h1, Nat.add_assoc, Nat.mul_comm a, h2, Nat.add_assoc]

theorem or_add (hi lo s : Nat) (hlo : lo < 18446744073709551616) (hs : s ≤ 64) : (hi * 2 ^ s) ||| (lo / 2 ^ (64 - s)) = hi * 2 ^ s + lo / 2 ^ (64 - s) := by
  have hlt : lo / 2 ^ (64 - s) < 2 ^ s := by
    rw [Nat.div_lt_iff_lt_mul (Nat.two_pow_pos _), ← Nat.pow_add]
    have : s + (64 - s) = 64 := by omega
    rw [this]
    exact hlo
  have := Nat.shiftLeft_add_eq_or_of_lt hlt hi
  rw [Nat.shiftLeft_eq] at this
  exact this.symm

theorem u_lt (hi lo y s : Nat) (hlo : lo < 18446744073709551616) (hhi : hi < y) (hs : s ≤ 64) : hi * 2 ^ s + lo / 2 ^ (64 - s) < y * 2 ^ s := by
  have hlt : lo / 2 ^ (64 - s) < 2 ^ s := by
    rw [Nat.div_lt_iff_lt_mul (Nat.two_pow_pos _), ← Nat.pow_add]
    have : s + (64 - s) = 64 := by omega
    rw [this]
    exact hlo
  have h2 : (hi + 1) * 2 ^ s ≤ y * 2 ^ s := Nat.mul_le_mul_right _ hhi
  rw [Nat.add_mul, Nat.one_mul] at h2
  omega

end Go.Proofs.Ytlaalhbicblbeaa.KM
