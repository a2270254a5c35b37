/- Lists of integers as single integers: codes, and the functions on them. Plain mathematics. -/
namespace Go.SX
set_option linter.unusedVariables false

/-- an integer as a natural number -/
def zig (x : Int) : Nat := if 0 ≤ x then 2 * x.toNat else 2 * (-x).toNat + 1
theorem zig_inj {x y : Int} (h : zig x = zig y) : x = y := by
  unfold zig at h
  split at h <;> split at h <;> omega
/-- a list as a natural number -/
def encN : List Int → Nat
  | [] => 0
  | x :: l => 2 ^ zig x * (2 * encN l + 1)
theorem two_pow_odd {a b c d : Nat} (h : 2 ^ a * (2 * b + 1) = 2 ^ c * (2 * d + 1)) : a = c ∧ b = d := by
  induction a generalizing c with
  | zero =>
    cases c with
    | zero => simp at h; exact ⟨rfl, by omega⟩
    | succ c =>
      exfalso
      rw [Nat.pow_zero, Nat.one_mul, Nat.pow_succ, Nat.mul_comm (2 ^ c) 2, Nat.mul_assoc] at h
      omega
  | succ a ih =>
    cases c with
    | zero =>
      exfalso
      rw [Nat.pow_zero, Nat.one_mul, Nat.pow_succ, Nat.mul_comm (2 ^ a) 2, Nat.mul_assoc] at h
      omega
    | succ c =>
      rw [Nat.pow_succ, Nat.mul_comm (2 ^ a) 2, Nat.mul_assoc, Nat.pow_succ, Nat.mul_comm (2 ^ c) 2, Nat.mul_assoc] at h
      obtain ⟨h1, h2⟩ := ih (c := c) (by omega)
      exact ⟨by omega, h2⟩
theorem encN_inj : ∀ {l l' : List Int}, encN l = encN l' → l = l'
  | [], [], _ => rfl
  | [], x :: l, h => by
      have := Nat.mul_pos (Nat.two_pow_pos (zig x)) (show 0 < 2 * encN l + 1 by omega)
      simp only [encN] at h
      omega
  | x :: l, [], h => by
      have := Nat.mul_pos (Nat.two_pow_pos (zig x)) (show 0 < 2 * encN l + 1 by omega)
      simp only [encN] at h
      omega
  | x :: l, y :: l', h => by
      simp only [encN] at h
      obtain ⟨h1, h2⟩ := two_pow_odd h
      rw [zig_inj h1, encN_inj h2]
/-- the code of a list -/
def enc (l : List Int) : Int := (encN l : Nat)
theorem enc_inj {l l' : List Int} (h : enc l = enc l') : l = l' := encN_inj (by unfold enc at h; omega)
open Classical in
/-- the list with a code -/
noncomputable def dec (c : Int) : List Int := if h : ∃ l, enc l = c then Classical.choose h else []
theorem dec_enc (l : List Int) : dec (enc l) = l := by
  have h : ∃ l', enc l' = enc l := ⟨l, rfl⟩
  unfold dec
  rw [dif_pos h]
  exact enc_inj (Classical.choose_spec h)

/-- element j of item i, of items of m cells -/
noncomputable def rowGet (m j : Nat) (c i : Int) : Int := (dec c).getD (m * i.toNat + j) 0
/-- what the names 1000 to 4999 of functions stand for -/
noncomputable def rowOp (k : Nat) (a : List Int) : Int :=
  if k = 1000 then enc a                                                                    -- a list of these
  else if k = 1001 then enc (dec (a.getD 0 0) ++ a.drop 1)                                  -- more behind it
  else if k = 1002 then enc ((dec (a.getD 0 0)).set (a.getD 1 0).toNat (a.getD 2 0))        -- one cell set
  else if k = 1003 then enc (List.replicate (a.getD 0 0).toNat 0)                           -- zeros
  else if k = 1004 then enc (dec (a.getD 0 0) ++ dec (a.getD 1 0))                          -- one behind the other
  else if k = 1005 then enc (((dec (a.getD 0 0)).drop (a.getD 1 0).toNat).take (a.getD 2 0).toNat)  -- so many from a place on
  else if k = 1006 then ((dec (a.getD 0 0)).length : Int)                                   -- how many cells
  else if 1100 ≤ k ∧ k < 4300 then rowGet ((k - 1100) / 100) ((k - 1100) % 100) (a.getD 0 0) (a.getD 1 0)
  else 0
def RowFn (f : Nat → List Int → Int) : Prop := ∀ k a, 1000 ≤ k → k < 5000 → f k a = rowOp k a
/-- functions beside those of rows -/
noncomputable def rowed (f : Nat → List Int → Int) : Nat → List Int → Int := fun k a => if 1000 ≤ k ∧ k < 5000 then rowOp k a else f k a
theorem rowed_rows (f : Nat → List Int → Int) : RowFn (rowed f) := fun k a h1 h2 => if_pos ⟨h1, h2⟩
theorem rowed_low {f : Nat → List Int → Int} {k : Nat} {a : List Int} (h : k < 1000) : rowed f k a = f k a := if_neg (by omega)
theorem rowOp_lit (a : List Int) : rowOp 1000 a = enc a := rfl
theorem rowOp_snoc (c : Int) (xs : List Int) : rowOp 1001 (c :: xs) = enc (dec c ++ xs) := rfl
theorem rowOp_set (c p x : Int) : rowOp 1002 [c, p, x] = enc ((dec c).set p.toNat x) := rfl
theorem rowOp_zeros (n : Int) : rowOp 1003 [n] = enc (List.replicate n.toNat 0) := rfl
theorem rowOp_cat (c d : Int) : rowOp 1004 [c, d] = enc (dec c ++ dec d) := rfl
theorem rowOp_sub (c a n : Int) : rowOp 1005 [c, a, n] = enc (((dec c).drop a.toNat).take n.toNat) := rfl
theorem rowOp_size (c : Int) : rowOp 1006 [c] = ((dec c).length : Int) := rfl
theorem rowOp_get {m j : Nat} (hm : m < 32) (hj : j < 100) (c i : Int) : rowOp (1100 + 100 * m + j) [c, i] = rowGet m j c i := by
  unfold rowOp
  rw [if_neg (by omega), if_neg (by omega), if_neg (by omega), if_neg (by omega), if_neg (by omega), if_neg (by omega), if_neg (by omega), if_pos (by omega)]
  rw [show (1100 + 100 * m + j - 1100) / 100 = m by omega, show (1100 + 100 * m + j - 1100) % 100 = j by omega]
  rfl
end Go.SX
