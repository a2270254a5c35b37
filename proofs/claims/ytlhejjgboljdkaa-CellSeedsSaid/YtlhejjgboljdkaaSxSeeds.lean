import Derived.Test.YtlhejjgboljdkaaSx14
namespace Go.SX
open Go
set_option linter.unusedVariables false
set_option linter.unusedSimpArgs false

/-- a machine number as an integer -/
def toI (x : BitVec 64) : Int := (x.toNat : Int)
theorem toI_inj {x y : BitVec 64} (h : toI x = toI y) : x = y := BitVec.eq_of_toNat_eq (Int.ofNat.inj h)

theorem wrap_u64 (n : Nat) : IntKind.u64.wrap (n : Int) = ((n % 2 ^ 64 : Nat) : Int) := by
  simp only [IntKind.wrap]
  have e1 : IntKind.u64.signed = false := rfl
  have e2 : IntKind.u64.bits = 64 := rfl
  rw [e1, e2]
  simp

theorem ofInt_toI (x : BitVec 64) : BitVec.ofInt IntKind.u64.bits (toI x) = x := by
  show BitVec.ofInt 64 ((x.toNat : Nat) : Int) = x
  simp

theorem xor_toI (x y : BitVec 64) : binI .xor .u64 (toI x) (toI y) = toI (x ^^^ y) := by
  simp only [binI]
  rw [ofInt_toI, ofInt_toI]
  show IntKind.u64.wrap ((x ^^^ y).toNat : Int) = toI (x ^^^ y)
  rw [wrap_u64, Nat.mod_eq_of_lt (x ^^^ y).isLt]
  rfl

theorem shl_toI (x : BitVec 64) (k : Nat) (hk : k ≤ 64) : binI .shl .u64 (toI x) (k : Int) = toI (x <<< k) := by
  simp only [binI, Int.toNat_natCast]
  have e : min k IntKind.u64.bits = k := Nat.min_eq_left hk
  rw [e]
  show IntKind.u64.wrap ((x.toNat : Int) * 2 ^ k) = _
  have e2 : ((x.toNat : Int) * 2 ^ k) = ((x.toNat * 2 ^ k : Nat) : Int) := by simp
  rw [e2, wrap_u64]
  simp only [toI, BitVec.toNat_shiftLeft, Nat.shiftLeft_eq]

theorem shr_toI (x : BitVec 64) (k : Nat) (hk : k ≤ 64) : binI .shr .u64 (toI x) (k : Int) = toI (x >>> k) := by
  simp only [binI, Int.toNat_natCast]
  have e : min k IntKind.u64.bits = k := Nat.min_eq_left hk
  rw [e]
  show ((x.toNat : Int)).fdiv (2 ^ k) = _
  have e2 : ((2 : Int) ^ k) = ((2 ^ k : Nat) : Int) := by simp
  rw [e2, ← Int.ofNat_fdiv]
  simp only [toI, BitVec.toNat_ushiftRight, Nat.shiftRight_eq_div_pow]

theorem mul_toI (x y : BitVec 64) : binI .mul .u64 (toI x) (toI y) = toI (x * y) := by
  simp only [binI, toI]
  rw [← Int.natCast_mul, wrap_u64, BitVec.toNat_mul]

theorem xorL_inj (k : Nat) (hk : 0 < k) {x y : BitVec 64} (h : x ^^^ (x <<< k) = y ^^^ (y <<< k)) : x = y := by
  have hb : ∀ i, i < 64 → x.getLsbD i = y.getLsbD i := by
    intro i
    induction i using Nat.strongRecOn with
    | ind i ih =>
      intro hi
      have := congrArg (fun b => b.getLsbD i) h
      simp only [BitVec.getLsbD_xor, BitVec.getLsbD_shiftLeft, hi, decide_true, Bool.true_and] at this
      by_cases hik : i < k
      · simpa [hik] using this
      · rw [ih (i - k) (by omega) (by omega)] at this
        revert this
        cases x.getLsbD i <;> cases y.getLsbD i <;> cases (!decide (i < k) && y.getLsbD (i - k)) <;> simp
  exact BitVec.eq_of_getLsbD_eq fun i hi => hb i hi

theorem xorR_inj (k : Nat) (hk : 0 < k) {x y : BitVec 64} (h : x ^^^ (x >>> k) = y ^^^ (y >>> k)) : x = y := by
  have hb : ∀ n i, 64 - i ≤ n → x.getLsbD i = y.getLsbD i := by
    intro n
    induction n with
    | zero => intro i hi; rw [BitVec.getLsbD_of_ge _ _ (by omega), BitVec.getLsbD_of_ge _ _ (by omega)]
    | succ n ih =>
      intro i hi
      have := congrArg (fun b => b.getLsbD i) h
      simp only [BitVec.getLsbD_xor, BitVec.getLsbD_ushiftRight] at this
      by_cases h64 : 64 ≤ i
      · rw [BitVec.getLsbD_of_ge _ _ h64, BitVec.getLsbD_of_ge _ _ h64]
      · rw [ih (k + i) (by omega)] at this
        revert this
        cases x.getLsbD i <;> cases y.getLsbD i <;> cases y.getLsbD (k + i) <;> simp
  exact BitVec.eq_of_getLsbD_eq fun i hi => hb 64 i (by omega)

/-- what a generator draws first, of its state -/
def drawB (s : BitVec 64) : BitVec 64 :=
  let a := s ^^^ (s <<< 13)
  let b := a ^^^ (a >>> 7)
  let c := b ^^^ (b <<< 17)
  c * 2685821657736338717#64

theorem drawB_inj {x y : BitVec 64} (h : drawB x = drawB y) : x = y := by
  simp only [drawB] at h
  have hm : ∀ c d : BitVec 64, c * 2685821657736338717#64 = d * 2685821657736338717#64 → c = d := by
    intro c d e
    have := congrArg (fun z => z * 6415128727920758069#64) e
    simp only [BitVec.mul_assoc] at this
    have e1 : (2685821657736338717#64 * 6415128727920758069#64 : BitVec 64) = 1#64 := by decide +kernel
    rw [e1] at this
    simpa using this
  exact xorL_inj 13 (by omega) (xorR_inj 7 (by omega) (xorL_inj 17 (by omega) (hm _ _ h)))
theorem drawB_zero : drawB 0#64 = 0#64 := by decide +kernel

def seedE (v : E) : E := .bin .add .u64 (.bin .mul .u64 (.lit 2) (.op .tmod v (.lit 9223372036854775808))) (.lit 1)
def drawE (s : E) : E :=
  let a := E.bin .xor .u64 s (.bin .shl .u64 s (.lit 13))
  let b := E.bin .xor .u64 a (.bin .shr .u64 a (.lit 7))
  let c := E.bin .xor .u64 b (.bin .shl .u64 b (.lit 17))
  E.bin .mul .u64 c (.lit 2685821657736338717)

theorem drawE_den {env : Env} {s : E} {x : BitVec 64} (h : s.den env = toI x) : (drawE s).den env = toI (drawB x) := by
  have h13 := shl_toI x 13 (by omega)
  simp only [drawE, E.den, h]
  rw [show ((13 : Int)) = ((13 : Nat) : Int) from rfl, show ((7 : Int)) = ((7 : Nat) : Int) from rfl, show ((17 : Int)) = ((17 : Nat) : Int) from rfl]
  rw [shl_toI x 13 (by omega), xor_toI, shr_toI _ 7 (by omega), xor_toI, shl_toI _ 17 (by omega), xor_toI]
  have : (2685821657736338717 : Int) = toI 2685821657736338717#64 := by decide +kernel
  rw [this, mul_toI]
  rfl

/-- the state of a new generator -/
def seedB (n : Nat) : BitVec 64 := BitVec.ofNat 64 (2 * n + 1)
theorem seedE_den {env : Env} {v : E} {n : Nat} (h : v.den env = (n : Int)) : (seedE v).den env = toI (seedB (n % 9223372036854775808)) := by
  simp only [seedE, E.den, h, O2.ev, binI]
  have e : ((n : Int).tmod 9223372036854775808) = ((n % 9223372036854775808 : Nat) : Int) := by
    rw [Int.tmod_eq_emod_of_nonneg (by omega)]; omega
  rw [e, show ((2 : Int) * ((n % 9223372036854775808 : Nat) : Int)) = ((2 * (n % 9223372036854775808) : Nat) : Int) by omega, wrap_u64,
    Nat.mod_eq_of_lt (by omega), show (((2 * (n % 9223372036854775808) : Nat) : Int) + 1) = ((2 * (n % 9223372036854775808) + 1 : Nat) : Int) by omega, wrap_u64]
  simp only [toI, seedB, BitVec.toNat_ofNat]

theorem seedB_inj {n m : Nat} (hn : n < 9223372036854775808) (hm : m < 9223372036854775808) (h : seedB n = seedB m) : n = m := by
  have := congrArg BitVec.toNat h
  simp only [seedB, BitVec.toNat_ofNat] at this
  omega
theorem seedB_ne {n : Nat} (hn : n < 9223372036854775808) : seedB n ≠ 0#64 := by
  intro h
  have := congrArg BitVec.toNat h
  simp only [seedB, BitVec.toNat_ofNat] at this
  omega

def facts (a b : E) : List BE :=
  [.cmp .neq (drawE (seedE a)) (.lit 0), .cmp .neq (drawE (seedE b)) (.lit 0),
   .eqb (.cmp .eql (drawE (seedE a)) (drawE (seedE b))) (.cmp .eql (.op .tmod a (.lit 9223372036854775808)) (.op .tmod b (.lit 9223372036854775808)))]

theorem facts_hold {env : Env} {a b : E} {n m : Nat} (ha : a.den env = (n : Int)) (hb : b.den env = (m : Int)) : ∀ h ∈ facts a b, h.den env = true := by
  have ea := drawE_den (seedE_den ha)
  have eb := drawE_den (seedE_den hb)
  have hn : n % 9223372036854775808 < 9223372036854775808 := by omega
  have hm : m % 9223372036854775808 < 9223372036854775808 := by omega
  have nz : ∀ k, k < 9223372036854775808 → toI (drawB (seedB k)) ≠ 0 := by
    intro k hk h
    have h0 : drawB (seedB k) = drawB 0#64 := by
      rw [drawB_zero]; exact toI_inj (by rw [h]; rfl)
    exact seedB_ne hk (drawB_inj h0)
  intro h hh
  simp only [facts, List.mem_cons, List.not_mem_nil, or_false] at hh
  rcases hh with rfl | rfl | rfl
  · simp only [BE.den, cmpI, ea, E.den, bne_iff_ne]; exact nz _ hn
  · simp only [BE.den, cmpI, eb, E.den, bne_iff_ne]; exact nz _ hm
  · simp only [BE.den, cmpI, ea, eb]
    have e : ∀ k : Nat, ((k : Int).tmod 9223372036854775808) = ((k % 9223372036854775808 : Nat) : Int) := by
      intro k; rw [Int.tmod_eq_emod_of_nonneg (by omega)]; omega
    simp only [E.den, O2.ev, ha, hb, e]
    by_cases hnm : n % 9223372036854775808 = m % 9223372036854775808
    · rw [hnm]; simp
    · have h1 : toI (drawB (seedB (n % 9223372036854775808))) ≠ toI (drawB (seedB (m % 9223372036854775808))) := fun h => hnm (seedB_inj hn hm (drawB_inj (toI_inj h)))
      have h2 : ((n % 9223372036854775808 : Nat) : Int) ≠ ((m % 9223372036854775808 : Nat) : Int) := by omega
      rw [beq_eq_false_iff_ne.mpr h1, beq_eq_false_iff_ne.mpr h2]
      rfl
end Go.SX
