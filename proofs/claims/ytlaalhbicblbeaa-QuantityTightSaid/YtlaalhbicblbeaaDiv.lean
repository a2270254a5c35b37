/- The contract of math/bits.Div64: the quotient and the rest of a two-word number by a word, where the quotient fits a word. -/
import Derived.Test.YtlaalhbicblbeaaProg
import Derived.Test.YtlaalhbicblbeaaShelf
import Derived.Test.YtlaalhbicblbeaaKm
import Derived.WalkKit
import Derived.WalkSpells
import Derived.WalkLawsBesides
import Derived.Deep.DeepCutAuto
import Derived.Deep.CutBlock
import Derived.Deep.QuietTactic
import Derived.BigQuiet
import Derived.Lib.Hide
namespace Go.Proofs.Ytlaalhbicblbeaa
open Go.RowKit
set_option maxHeartbeats 400000 in
theorem div_small (lo y : Nat) (w : World) (hlo : lo ≤ 18446744073709551615) (hy : 1 ≤ y) (hy2 : y ≤ 18446744073709551615) :
    Calls Try.prog 136 #[.int .u64 0, .int .u64 lo, .int .u64 y] w fun e w' => e = .returned (.tuple #[.int .u64 ((lo : Int) / y), .int .u64 ((lo : Int) % y)]) ∧ ∃ n, w' = w.drewN n := by
  have hz : ((y : Int) == 0) = false := by simp; omega
  have hz1 : (lo : Int) / y ≤ 18446744073709551615 := by
    have := Nat.div_le_self lo y
    rw [← Int.natCast_ediv]; omega
  have hz2 : 0 ≤ (lo : Int) / y := Int.ediv_nonneg (by omega) (by omega)
  go_enter Try.func136, Try.ntmps136
  go_wp2_with fail
  go_quiet (fail)
  go_wp2_with fail
  go_ret2
  exact ⟨rfl, _, rfl⟩
theorem bitLen_spec : ∀ (f x : Nat), x < 2 ^ f → f ≤ 64 → x < 2 ^ Lib.bitLen x ∧ (x ≠ 0 → 2 ^ Lib.bitLen x ≤ 2 * x) := by
  intro f
  induction f with
  | zero =>
    intro x hx _
    have : x = 0 := by omega
    subst this
    exact ⟨by decide, fun h => absurd rfl h⟩
  | succ f ih =>
    intro x hx hf
    by_cases h0 : x = 0
    · subst h0
      exact ⟨by decide, fun h => absurd rfl h⟩
    · have hx64 : x < 2 ^ 64 := Nat.lt_of_lt_of_le hx (Nat.pow_le_pow_right (by omega) hf)
      obtain ⟨a, b⟩ := ih (x / 2) (by rw [Nat.pow_succ] at hx; omega) (by omega)
      rw [Lib.bitLen_half x h0 hx64, Nat.pow_add, Nat.pow_one]
      refine ⟨by omega, fun _ => ?_⟩
      by_cases h2 : x / 2 = 0
      · rw [h2]
        have : (2 : Nat) ^ Lib.bitLen 0 = 1 := by decide
        omega
      · have := b h2
        omega
theorem shl_le (y s : Nat) (h : y * 2 ^ s < 18446744073709551616) : (y : Int) * 2 ^ s ≤ 18446744073709551615 := by
  have : (y : Int) * 2 ^ s = ((y * 2 ^ s : Nat) : Int) := by simp
  omega
theorem shl_ge (y s : Nat) : 0 ≤ (y : Int) * 2 ^ s := by
  have : (y : Int) * 2 ^ s = ((y * 2 ^ s : Nat) : Int) := by simp
  omega
theorem pow_cast (a s : Nat) : (a : Int) * 2 ^ s = ((a * 2 ^ s : Nat) : Int) := by simp
theorem pow_cast_div (a s : Nat) : (a : Int) / 2 ^ s = ((a / 2 ^ s : Nat) : Int) := by simp
theorem u64c {a b : Int} (h : a = b) : Value.int .u64 a = Value.int .u64 b := by rw [h]
theorem mul_cast (a b : Nat) : (a : Int) * (b : Int) = ((a * b : Nat) : Int) := by simp
/-- the digits of the shifted dividend and divisor -/
structure Norm (hi lo y s Y y1 y0 u n1 n0 : Nat) : Prop where
  hY : Y = y * 2 ^ s
  hY1 : Y = y1 * 4294967296 + y0
  y1lo : 2147483648 ≤ y1
  y1hi : y1 < 4294967296
  y0hi : y0 < 4294967296
  uY : u < Y
  n1hi : n1 < 4294967296
  n0hi : n0 < 4294967296
  num : (u * 4294967296 + n1) * 4294967296 + n0 = (hi * 18446744073709551616 + lo) * 2 ^ s
theorem norm_mk (hi lo y s : Nat) (hlo : lo ≤ 18446744073709551615) (hy : hi < y) (hs : s ≤ 63) (hys : y * 2 ^ s < 18446744073709551616) (hlow : 9223372036854775808 ≤ y * 2 ^ s) :
    Norm hi lo y s (y * 2 ^ s) (y * 2 ^ s / 4294967296) (y * 2 ^ s % 4294967296) (hi * 2 ^ s + lo / 2 ^ (64 - s)) (lo * 2 ^ s % 18446744073709551616 / 4294967296) (lo * 2 ^ s % 18446744073709551616 % 4294967296) := by
  have h1 := KM.u_lt hi lo y s (by omega) hy (by omega)
  have h2 := KM.shifted_num hi lo s (by omega)
  have hm : lo * 2 ^ s % 18446744073709551616 < 18446744073709551616 := Nat.mod_lt _ (by omega)
  generalize hY : y * 2 ^ s = Y at *
  generalize lo * 2 ^ s % 18446744073709551616 = m at *
  exact ⟨hY.symm, by omega, by omega, by omega, by omega, h1, by omega, by omega, h2⟩

/-- the digit that is left behind the first quotient -/
theorem rest_eq (u n q Y : Nat) (h1 : q * Y ≤ u * 4294967296 + n) (h2 : u * 4294967296 + n < (q + 1) * Y) (hY : Y < 18446744073709551616) :
    IntKind.u64.wrap (IntKind.u64.wrap (IntKind.u64.wrap ((u : Int) * 4294967296) + n) - IntKind.u64.wrap ((q : Int) * Y)) = ((u * 4294967296 + n - q * Y : Nat) : Int) := by
  rw [mul_cast, Nat.add_mul, Nat.one_mul] at *
  generalize q * Y = p at *
  simp only [IntKind.wrap_u64]
  omega
/-- both quotients are the quotient; the rest, shifted back, is the rest. -/
theorem div_end {hi lo y s Y y1 y0 u n1 n0 q p : Nat} (N : Norm hi lo y s Y y1 y0 u n1 n0) (a1 : q * Y ≤ u * 4294967296 + n1) (a2 : u * 4294967296 + n1 < (q + 1) * Y)
    (b1 : p * Y ≤ (u * 4294967296 + n1 - q * Y) * 4294967296 + n0) (b2 : (u * 4294967296 + n1 - q * Y) * 4294967296 + n0 < (p + 1) * Y) :
    q * 4294967296 + p = (hi * 18446744073709551616 + lo) / y ∧ ((u * 4294967296 + n1 - q * Y) * 4294967296 + n0 - p * Y) / 2 ^ s = (hi * 18446744073709551616 + lo) % y := by
  have hY : 0 < Y := by have := N.uY; omega
  have hq : q = (u * 4294967296 + n1) / Y := KM.div_of _ _ _ a1 a2
  have hp : p = ((u * 4294967296 + n1 - q * Y) * 4294967296 + n0) / Y := KM.div_of _ _ _ b1 b2
  obtain ⟨e1, e2⟩ := KM.two_digits hY hq hp
  rw [N.num, N.hY] at e1 e2
  rw [N.hY] at *
  rw [e1, e2]
  exact ⟨KM.shifted_div _ _ _, KM.shifted_mod _ _ _⟩
theorem q_small {u n Y q : Nat} (h : q * Y ≤ u * 4294967296 + n) (hu : u < Y) (hn : n < 4294967296) : q < 4294967296 := by
  apply Nat.lt_of_mul_lt_mul_right (a := Y)
  omega
set_option maxRecDepth 100000 in
set_option maxHeartbeats 1000000 in
theorem div_big (hi lo y s : Nat) (w : World) (h1 : 1 ≤ hi) (hlo : lo ≤ 18446744073709551615) (hy : hi < y) (hy2 : y ≤ 18446744073709551615)
    (hs : s ≤ 63) (hsl : (64 : Int) - (Lib.bitLen y : Int) = s) (hys : y * 2 ^ s < 18446744073709551616) (hlow : 9223372036854775808 ≤ y * 2 ^ s) (hhs : hi * 2 ^ s < 18446744073709551616) :
    Calls Try.prog 136 #[.int .u64 hi, .int .u64 lo, .int .u64 y] w fun e w' => e = .returned (.tuple #[.int .u64 ((hi * 18446744073709551616 + lo) / y : Nat), .int .u64 ((hi * 18446744073709551616 + lo) % y : Nat)]) ∧ ∃ n, w' = w.drewN n := by
  have hz : ((y : Int) == 0) = false := by simp; omega
  have hz : ((hi : Int) == 0) = false := by simp; omega
  have b1 := shl_le y s hys
  have b2 := shl_ge y s
  have b3 := shl_le hi s hhs
  have b4 := shl_ge hi s
  have HN := norm_mk hi lo y s hlo hy hs hys hlow
  have HO := Lib.hid (KM.or_add hi lo s (by omega) (by omega))
  have HL := Lib.hid (KM.u_lt hi lo y s (by omega) hy (by omega))
  have HH := Lib.hid hys
  have HB := Lib.hid hhs
  clear hys hhs hlow
  have H := Lib.hid hsl
  clear hsl
  go_enter Try.func136, Try.ntmps136
  go_wp2_with fail
  refine (Try.bits_LeadingZeros64 y _ (by omega) (by omega)).mono ?_
  rintro e w' ⟨rfl, rfl⟩
  rw [Int.toNat_natCast, H.out]
  have m1 : min s 64 = s := by omega
  have m2 : min (64 - s) 64 = 64 - s := by omega
  have m3 : (64 - (s : Int)).toNat = 64 - s := by omega
  go_upto_region 14 with fail
  go_cut [2, 9, 10, 11, 13, 14] (fun s2 s9 s10 s11 s13 s14 wx => ∃ Y y1 y0 u n1 n0 : Nat, Norm hi lo y s Y y1 y0 u n1 n0 ∧ s2 = .int .u64 Y ∧ s9 = .int .u64 y1 ∧ s10 = .int .u64 y0 ∧ s11 = .int .u64 u ∧ s13 = .int .u64 n1 ∧ s14 = .int .u64 n0 ∧ wx = w')
  case first =>
    go_wp2_with fail
    go_meet
    refine ⟨_, _, _, _, _, _, HN, u64c (pow_cast y s), u64c ?_, u64c ?_, u64c ?_, u64c ?_, u64c ?_, rfl⟩
    · rw [pow_cast]; rfl
    · rw [pow_cast, Mul64.maskN _ HH.out]
    · rw [pow_cast, pow_cast_div, bits_or_u64_nat _ _ HB.out (by have := Nat.div_le_self lo (2 ^ (64 - s)); omega), HO.out]
    · rw [pow_cast, Mul64.wrapM]; rfl
    · rw [pow_cast, Mul64.wrapM, Mul64.maskN _ (Nat.mod_lt _ (by omega))]
  case rest =>
    obtain ⟨Y, y1, y0, u, n1, n0, N, rfl, rfl, rfl, rfl, rfl, rfl, rfl⟩ := hcut
    obtain ⟨w', hww⟩ : ∃ w' : World, w' = wc := ⟨_, rfl⟩
    subst hww
    clear HN HO HL HB b1 b2 b3 b4 m1 m2 m3
    have g1 : (2147483648 : Int) ≤ (y1 : Int) := by have := N.y1lo; omega
    have g2 : (y1 : Int) ≤ 4294967295 := by have := N.y1hi; omega
    have g3 : (y0 : Int) ≤ 4294967295 := by have := N.y0hi; omega
    have g4 : (n1 : Int) ≤ 4294967295 := by have := N.n1hi; omega
    have g5 : (n0 : Int) ≤ 4294967295 := by have := N.n0hi; omega
    have g6 := N.uY
    have HY1 := Lib.hid N.hY1
    have g7 : (Y : Int) ≤ 18446744073709551615 := by have a := HH.out; have b := N.hY; omega
    have hz1 : ((y1 : Int) == 0) = false := by simp; omega
    obtain ⟨q, hq⟩ : ∃ q : Nat, q = u / y1 := ⟨_, rfl⟩
    have HI := KM.inv_init (u := u) (n := n1) (y1 := y1) (y0 := y0) (by omega) (by omega)
    have hqb := KM.q_init_le (u := u) (y1 := y1) (y0 := y0) (by omega) (by rw [← HY1.out]; exact g6) (by omega)
    have c1 : (q : Int) * (y1 : Int) ≤ u := by rw [mul_cast, hq]; have := Nat.div_mul_le_self u y1; omega
    have c0 : 0 ≤ (q : Int) * (y1 : Int) := by rw [mul_cast]; omega
    have c2 : (u : Int) - (q : Int) * (y1 : Int) < y1 := by
      rw [mul_cast, hq]; have := Nat.lt_div_mul_add (a := u) (show 0 < y1 by omega); omega
    rw [← hq] at HI hqb
    have hqb' : (q : Int) ≤ 4294967297 := by omega
    clear hqb
    obtain ⟨r, hr⟩ : ∃ r : Nat, r = u - q * y1 := ⟨_, rfl⟩
    rw [← hr] at HI
    have r1 : (u : Int) / (y1 : Int) = (q : Int) := by rw [hq]; rfl
    have r2 : (u : Int) - (q : Int) * (y1 : Int) = (r : Int) := by rw [hr, mul_cast]; rw [mul_cast] at c1; omega
    have hrb : (r : Int) ≤ 4294967295 := by omega
    clear hq hr
    go_upto_block 0 with fail
    go_cut [15, 16] (fun a _ wx => ∃ q : Nat, a = .int .u64 q ∧ q * Y ≤ u * 4294967296 + n1 ∧ u * 4294967296 + n1 < (q + 1) * Y ∧ wx = w')
    case first =>
      go_wp2_with fail
      go_loop [15, 16] (fun a b => ∃ q r : Nat, a = .int .u64 q ∧ b = .int .u64 r ∧ KM.Inv u n1 y1 y0 q r ∧ (q : Int) ≤ 4294967297 ∧ (r : Int) ≤ 4294967295) (fun a _ => (intOf a).toNat)
      case atStart => exact ⟨q, r, rfl, rfl, HI, by omega, hrb⟩
      case round =>
        clear HI hqb' hrb r1 r2 c0 c1 c2
        obtain ⟨q, r, rfl, rfl, hI, hq, hr⟩ := hrel
        by_cases cA : (4294967296 : Int) ≤ (q : Int)
        · obtain ⟨hq1, hd⟩ := KM.inv_dec hI (by omega) (by rw [← HY1.out]; exact g6) (Or.inl (by omega))
          have hqi : ((q - 1 : Nat) : Int) = (q : Int) - 1 := by omega
          have Hqi := Lib.hid hqi
          clear hqi
          by_cases cB : (4294967296 : Int) ≤ (r : Int) + (y1 : Int)
          · have hbr := KM.inv_break hd (by omega) (by omega) (by omega)
            have hbig := hd.big
            rw [← HY1.out] at hbr hbig
            have HB1 := Lib.hid hbr
            have HB2 := Lib.hid hbig
            clear hbr hbig hd hI
            go_wp2_with fail
            go_meet
            exact ⟨q - 1, u64c Hqi.out.symm, HB1.out, HB2.out, rfl⟩
          · go_wp2_with fail
            go_round
            case rel => exact ⟨q - 1, r + y1, u64c Hqi.out.symm, by go_num, hd, by omega, by omega⟩
            case measure => simp [intOf]; omega
        · have hm : q * y0 ≤ 4294967295 * 4294967295 := Nat.mul_le_mul (by omega) (by omega)
          have e1 : (q : Int) * (y0 : Int) ≤ 18446744065119617025 := by rw [mul_cast]; omega
          have e0 : 0 ≤ (q : Int) * (y0 : Int) := by rw [mul_cast]; omega
          clear hm
          by_cases cC : 4294967296 * r + n1 < q * y0
          · obtain ⟨hq1, hd⟩ := KM.inv_dec hI (by omega) (by rw [← HY1.out]; exact g6) (Or.inr cC)
            have cC' : 4294967296 * (r : Int) + (n1 : Int) < (q : Int) * (y0 : Int) := by rw [mul_cast]; omega
            have hqi : ((q - 1 : Nat) : Int) = (q : Int) - 1 := by omega
            have Hqi := Lib.hid hqi
            clear hqi cC
            by_cases cB : (4294967296 : Int) ≤ (r : Int) + (y1 : Int)
            · have hbr := KM.inv_break hd (by omega) (by omega) (by omega)
              have hbig := hd.big
              rw [← HY1.out] at hbr hbig
              have HB1 := Lib.hid hbr
              have HB2 := Lib.hid hbig
              clear hbr hbig hd hI
              go_wp2_with fail
              go_meet
              exact ⟨q - 1, u64c Hqi.out.symm, HB1.out, HB2.out, rfl⟩
            · go_wp2_with fail
              go_round
              case rel => exact ⟨q - 1, r + y1, u64c Hqi.out.symm, by go_num, hd, by omega, by omega⟩
              case measure => simp [intOf]; omega
          · have cC' : (q : Int) * (y0 : Int) ≤ 4294967296 * (r : Int) + (n1 : Int) := by
              rw [mul_cast]; have := Nat.le_of_not_lt cC; omega
            have hbr := KM.inv_exit hI (Nat.le_of_not_lt cC)
            have hbig := hI.big
            rw [← HY1.out] at hbr hbig
            have HB1 := Lib.hid hbr
            have HB2 := Lib.hid hbig
            clear hbr hbig hI cC
            go_wp2_with fail
            go_meet
            exact ⟨q, rfl, HB1.out, HB2.out, rfl⟩
    case rest =>
      obtain ⟨q, rfl, hq1, hq2, hww⟩ := hcut
      obtain ⟨w'', hw2⟩ : ∃ w'' : World, w'' = wc := ⟨_, rfl⟩
      subst hw2
      subst hww
      clear r1 r2 c0 c1 c2 HI hqb' hrb
      have HRE := rest_eq u n1 q Y hq1 hq2 (by omega)
      have HRL : u * 4294967296 + n1 - q * Y < Y := by rw [Nat.add_mul, Nat.one_mul] at hq2; omega
      have HQS := q_small hq1 g6 (by omega)
      have HQ1 := Lib.hid hq1
      have HQ2 := Lib.hid hq2
      have hQs : (q : Int) ≤ 4294967295 := by omega
      have HR := Lib.hid HRE
      clear hq1 hq2 HRE HQS
      obtain ⟨t, ht⟩ : ∃ t : Nat, t = u * 4294967296 + n1 - q * Y := ⟨_, rfl⟩
      rw [← ht] at HRL
      have HT := Lib.hid ht
      have g8 := HRL
      clear ht HRL
      go_upto_region 21 with fail
      go_cut [17] (fun a wx => a = .int .u64 t ∧ wx = w'')
      case first =>
        go_wp2_with fail
        go_meet
        exact ⟨u64c (by rw [HT.out]; exact HR.out), rfl⟩
      case rest =>
        obtain ⟨rfl, hww⟩ := hcut
        obtain ⟨w1, hw2⟩ : ∃ w1 : World, w1 = wc := ⟨_, rfl⟩
        subst hw2
        subst hww
        obtain ⟨p, hp⟩ : ∃ p : Nat, p = t / y1 := ⟨_, rfl⟩
        have HI := KM.inv_init (u := t) (n := n0) (y1 := y1) (y0 := y0) (by omega) (by omega)
        have hqb := KM.q_init_le (u := t) (y1 := y1) (y0 := y0) (by omega) (by rw [← HY1.out]; exact g8) (by omega)
        have c1 : (p : Int) * (y1 : Int) ≤ t := by rw [mul_cast, hp]; have := Nat.div_mul_le_self t y1; omega
        have c0 : 0 ≤ (p : Int) * (y1 : Int) := by rw [mul_cast]; omega
        have c2 : (t : Int) - (p : Int) * (y1 : Int) < y1 := by
          rw [mul_cast, hp]; have := Nat.lt_div_mul_add (a := t) (show 0 < y1 by omega); omega
        rw [← hp] at HI hqb
        have hqb' : (p : Int) ≤ 4294967297 := by omega
        clear hqb
        obtain ⟨r, hr⟩ : ∃ r : Nat, r = t - p * y1 := ⟨_, rfl⟩
        rw [← hr] at HI
        have r1 : (t : Int) / (y1 : Int) = (p : Int) := by rw [hp]; rfl
        have r2 : (t : Int) - (p : Int) * (y1 : Int) = (r : Int) := by rw [hr, mul_cast]; rw [mul_cast] at c1; omega
        have hrb : (r : Int) ≤ 4294967295 := by omega
        clear hp hr
        go_upto_block 2 with fail
        go_cut [18, 16] (fun a _ wx => ∃ q : Nat, a = .int .u64 q ∧ q * Y ≤ t * 4294967296 + n0 ∧ t * 4294967296 + n0 < (q + 1) * Y ∧ wx = w1)
        case first =>
          go_wp2_with fail
          go_loop [18, 16] (fun a b => ∃ q r : Nat, a = .int .u64 q ∧ b = .int .u64 r ∧ KM.Inv t n0 y1 y0 q r ∧ (q : Int) ≤ 4294967297 ∧ (r : Int) ≤ 4294967295) (fun a _ => (intOf a).toNat)
          case atStart => exact ⟨p, r, rfl, rfl, HI, by omega, hrb⟩
          case round =>
            clear HI hqb' hrb r1 r2 c0 c1 c2
            obtain ⟨q, r, rfl, rfl, hI, hq, hr⟩ := hrel
            by_cases cA : (4294967296 : Int) ≤ (q : Int)
            · obtain ⟨hq1, hd⟩ := KM.inv_dec hI (by omega) (by rw [← HY1.out]; exact g8) (Or.inl (by omega))
              have hqi : ((q - 1 : Nat) : Int) = (q : Int) - 1 := by omega
              have Hqi := Lib.hid hqi
              clear hqi
              by_cases cB : (4294967296 : Int) ≤ (r : Int) + (y1 : Int)
              · have hbr := KM.inv_break hd (by omega) (by omega) (by omega)
                have hbig := hd.big
                rw [← HY1.out] at hbr hbig
                have HB1 := Lib.hid hbr
                have HB2 := Lib.hid hbig
                clear hbr hbig hd hI
                go_wp2_with fail
                go_meet
                exact ⟨q - 1, u64c Hqi.out.symm, HB1.out, HB2.out, rfl⟩
              · go_wp2_with fail
                go_round
                case rel => exact ⟨q - 1, r + y1, u64c Hqi.out.symm, by go_num, hd, by omega, by omega⟩
                case measure => simp [intOf]; omega
            · have hm : q * y0 ≤ 4294967295 * 4294967295 := Nat.mul_le_mul (by omega) (by omega)
              have e1 : (q : Int) * (y0 : Int) ≤ 18446744065119617025 := by rw [mul_cast]; omega
              have e0 : 0 ≤ (q : Int) * (y0 : Int) := by rw [mul_cast]; omega
              clear hm
              by_cases cC : 4294967296 * r + n0 < q * y0
              · obtain ⟨hq1, hd⟩ := KM.inv_dec hI (by omega) (by rw [← HY1.out]; exact g8) (Or.inr cC)
                have cC' : 4294967296 * (r : Int) + (n0 : Int) < (q : Int) * (y0 : Int) := by rw [mul_cast]; omega
                have hqi : ((q - 1 : Nat) : Int) = (q : Int) - 1 := by omega
                have Hqi := Lib.hid hqi
                clear hqi cC
                by_cases cB : (4294967296 : Int) ≤ (r : Int) + (y1 : Int)
                · have hbr := KM.inv_break hd (by omega) (by omega) (by omega)
                  have hbig := hd.big
                  rw [← HY1.out] at hbr hbig
                  have HB1 := Lib.hid hbr
                  have HB2 := Lib.hid hbig
                  clear hbr hbig hd hI
                  go_wp2_with fail
                  go_meet
                  exact ⟨q - 1, u64c Hqi.out.symm, HB1.out, HB2.out, rfl⟩
                · go_wp2_with fail
                  go_round
                  case rel => exact ⟨q - 1, r + y1, u64c Hqi.out.symm, by go_num, hd, by omega, by omega⟩
                  case measure => simp [intOf]; omega
              · have cC' : (q : Int) * (y0 : Int) ≤ 4294967296 * (r : Int) + (n0 : Int) := by
                  rw [mul_cast]; have := Nat.le_of_not_lt cC; omega
                have hbr := KM.inv_exit hI (Nat.le_of_not_lt cC)
                have hbig := hI.big
                rw [← HY1.out] at hbr hbig
                have HB1 := Lib.hid hbr
                have HB2 := Lib.hid hbig
                clear hbr hbig hI cC
                go_wp2_with fail
                go_meet
                exact ⟨q, rfl, HB1.out, HB2.out, rfl⟩
        case rest =>
          obtain ⟨p, rfl, hp1, hp2, hww⟩ := hcut
          clear r1 r2 c0 c1 c2 HI hqb' hrb
          have HE := rest_eq t n0 p Y hp1 hp2 (by omega)
          have hPs := q_small hp1 g8 (by omega)
          rw [HT.out] at hp1 hp2
          have HF := div_end N HQ1.out HQ2.out hp1 hp2
          rw [← HT.out] at HF
          have K1 := Lib.hid HE
          have K3 := Lib.hid HF
          have hPs' : (p : Int) ≤ 4294967295 := by omega
          clear HE HF hp1 hp2 hPs
          have m1 : min s 64 = s := by omega
          go_wp2_with fail
          have K4 : Value.tuple #[.int .u64 ((q : Int) * 4294967296 + (p : Int)), .int .u64 (IntKind.u64.wrap (IntKind.u64.wrap (IntKind.u64.wrap ((t : Int) * 4294967296) + n0) - IntKind.u64.wrap ((p : Int) * Y)) / 2 ^ s)] = Value.tuple #[.int .u64 ((hi * 18446744073709551616 + lo) / y : Nat), .int .u64 ((hi * 18446744073709551616 + lo) % y : Nat)] := by
            rw [show (q : Int) * 4294967296 + (p : Int) = ((q * 4294967296 + p : Nat) : Int) by omega, K1.out, pow_cast_div, K3.out.1, K3.out.2]
          go_ret2
          exact ⟨congrArg Ending.returned K4, 0, rfl⟩

/-- 'math/bits.Div64', where the quotient fits a word. -/
theorem div_any (hi lo y : Nat) (w : World) (hlo : lo ≤ 18446744073709551615) (hy : hi < y) (hy2 : y ≤ 18446744073709551615) :
    Calls Try.prog 136 #[.int .u64 hi, .int .u64 lo, .int .u64 y] w fun e w' => e = .returned (.tuple #[.int .u64 ((hi * 18446744073709551616 + lo) / y : Nat), .int .u64 ((hi * 18446744073709551616 + lo) % y : Nat)]) ∧ ∃ n, w' = w.drewN n := by
  rcases Nat.eq_zero_or_pos hi with h0 | h0
  · subst h0
    have := div_small lo y w hlo (by omega) hy2
    rw [Nat.zero_mul, Nat.zero_add]
    exact this
  · obtain ⟨a, b⟩ := bitLen_spec 64 y (by omega) (by omega)
    have b := b (by omega)
    have hbl : Lib.bitLen y ≤ 64 := Lib.bitLen_le y 64 (by omega) (by omega)
    have hb1 : 1 ≤ Lib.bitLen y := by
      rcases Nat.eq_zero_or_pos (Lib.bitLen y) with h | h
      · rw [h] at a; omega
      · exact h
    have e : (2 : Nat) ^ Lib.bitLen y * 2 ^ (64 - Lib.bitLen y) = 18446744073709551616 := by
      rw [← Nat.pow_add, show Lib.bitLen y + (64 - Lib.bitLen y) = 64 by omega]
    have hp := Nat.two_pow_pos (64 - Lib.bitLen y)
    have e1 : y * 2 ^ (64 - Lib.bitLen y) < 18446744073709551616 := by
      rw [← e]; exact Nat.mul_lt_mul_of_pos_right a hp
    have e2 : 18446744073709551616 ≤ 2 * y * 2 ^ (64 - Lib.bitLen y) := by
      rw [← e]; exact Nat.mul_le_mul_right _ b
    have e3 : hi * 2 ^ (64 - Lib.bitLen y) < 18446744073709551616 := Nat.lt_of_le_of_lt (Nat.mul_le_mul_right _ (Nat.le_of_lt hy)) e1
    rw [Nat.mul_assoc] at e2
    exact div_big hi lo y (64 - Lib.bitLen y) w h0 hlo hy hy2 (by omega) (by omega) e1 (by omega) e3
end Go.Proofs.Ytlaalhbicblbeaa
