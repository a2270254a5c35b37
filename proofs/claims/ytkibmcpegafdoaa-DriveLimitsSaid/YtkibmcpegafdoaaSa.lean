/- A limiter's spans contain what a motor within its tolerances does; the next currents are within the limit. Plain mathematics, and the contracts of the functions that are called. -/
import Derived.Test.YtkibmcpegafdoaaMa
namespace Go.Proofs.Ytkibmcpegafdoaa
open Go Go.SX Go.RowKit DR
set_option linter.unusedVariables false
set_option linter.unusedSimpArgs false
set_option maxRecDepth 100000
namespace DR
/-- ends of products -/
def sL (a b : Int) : Int := min (min (min (1 * a) (1 * b)) (1 * a)) (1 * b)
def sH (a b : Int) : Int := max (max (max (1 * a) (1 * b)) (1 * a)) (1 * b)
def tL (p q y : Int) : Int := min (min (min (p * y) (p * y)) (q * y)) (q * y)
def tH (p q y : Int) : Int := max (max (max (p * y) (p * y)) (q * y)) (q * y)
def uL (p q c d : Int) : Int := min (min (min (p * c) (p * d)) (q * c)) (q * d)
def uH (p q c d : Int) : Int := max (max (max (p * c) (p * d)) (q * c)) (q * d)
theorem s_in {a b x : Int} (h0 : a ≤ x) (h1 : x ≤ b) : sL a b ≤ x ∧ x ≤ sH a b := by unfold sL sH; omega
theorem t_in {p q x : Int} (y : Int) (h0 : p ≤ x) (h1 : x ≤ q) : tL p q y ≤ x * y ∧ x * y ≤ tH p q y := by
  have := seg_mul y h0 h1
  unfold tL tH
  omega
theorem u_in {p q c d x y : Int} (h0 : p ≤ x) (h1 : x ≤ q) (h2 : c ≤ y) (h3 : y ≤ d) : uL p q c d ≤ x * y ∧ x * y ≤ uH p q c d := by
  have := box_mul h0 h1 h2 h3
  unfold uL uH
  omega
theorem fl_mono {a b k : Int} (hk : 1 ≤ k) (h : a ≤ b) : a / k ≤ b / k := Int.ediv_le_ediv (by omega) h
theorem fl_le (n : Int) {d : Int} (hd : 1 ≤ d) : d * (n / d) ≤ n ∧ n < d * (n / d) + d := by
  have h1 := Int.mul_ediv_add_emod n d
  have h2 := Int.emod_nonneg n (b := d) (by omega)
  have h3 := Int.emod_lt_of_pos n (b := d) (by omega)
  omega
/-- the next current -/
theorem next_in {I d L K M v b b0 b1 : Int} (hM : 1 ≤ M) (hK : 1 ≤ K) (hL : K ≤ L) (h0 : -I ≤ d) (h1 : d ≤ I) (hb0 : b0 ≤ b) (hb1 : b ≤ b1)
    (v0 : 0 - (I + d) * K / M - b0 ≤ v) (v1 : v ≤ ((I - d + 1) * K - 1) / M - b1) : -I ≤ d + (v + b) * M / L ∧ d + (v + b) * M / L ≤ I := by
  have f0 := fl_le ((I + d) * K) hM
  have f1 := fl_le ((I - d + 1) * K - 1) hM
  generalize (I + d) * K / M = x at *
  generalize ((I - d + 1) * K - 1) / M = y at *
  have a0 : -x * M ≤ (v + b) * M := Int.mul_le_mul_of_nonneg_right (by omega) (by omega)
  have a1 : (v + b) * M ≤ y * M := Int.mul_le_mul_of_nonneg_right (by omega) (by omega)
  have c0 : (I + d) * K ≤ (I + d) * L := Int.mul_le_mul_of_nonneg_left hL (by omega)
  have c1 : (I - d + 1) * K ≤ (I - d + 1) * L := Int.mul_le_mul_of_nonneg_left hL (by omega)
  rw [Int.neg_mul, Int.mul_comm x M] at a0
  rw [Int.mul_comm y M] at a1
  constructor
  · have : -(I + d) ≤ (v + b) * M / L := by
      rw [Int.le_ediv_iff_mul_le (by omega), Int.neg_mul]
      omega
    omega
  · have : (v + b) * M / L < I - d + 1 := (Int.ediv_lt_iff_lt_mul (by omega)).2 (by omega)
    omega
/-- a number of a span, chosen by another one -/
def insF (a b p : Int) : Int := if p = 1 then b else a + p % (b - a + 1)
theorem ins_in {a b : Int} (p : Int) (h : a ≤ b) : a ≤ insF a b p ∧ insF a b p ≤ b := by
  unfold insF
  have h1 := Int.emod_nonneg p (b := b - a + 1) (by omega)
  have h2 := Int.emod_lt_of_pos p (b := b - a + 1) (by omega)
  split <;> omega
def sfn0 : Nat → List Int → Int
  | 1, [a, b] => a / b
  | 2, [a, b, p] => insF a b p
  | _, _ => 0
end DR
def GoodI (fn : Nat → List Int → Int) : Prop := SameLow 3 fn (rowed DR.sfn0)
theorem GoodI.l {fn : Nat → List Int → Int} (h : GoodI fn) : GoodL fn := fun k a hk => by
  rw [h k a (by unfold low at *; omega)]
  rcases hk with hk | ⟨h1, h2⟩
  · rw [rowed_lo _ _ _ (by omega), rowed_lo _ _ _ (by omega)]
    rcases k with _ | _ | k
    · rfl
    · unfold DR.sfn0 DR.dfn
      split <;> split <;> simp_all
    · omega
  · exact rowed_high _ _ k a h1 h2
theorem GoodI.q2 {fn : Nat → List Int → Int} (h : GoodI fn) (a b p : Int) : fn 2 [a, b, p] = insF a b p := (h _ _ (.inl (by decide))).trans rfl
/-- inside of a span -/
def inV : E := .app 2 [.var 0, .var 1, .var 2]
def sU : Bool × List (Option IntKind) := (false, [some .u64])
def insP : List BE := [.cmp .leq (.lit (-1152921504606846976)) (.var 0), .cmp .leq (.var 1) (.lit 1152921504606846976), .cmp .leq (.var 0) (.var 1)]
def insFC : FC := ⟨23, [(true, [some .i64, some .i64]), sU], .int .i64 inV, insP, [.cmp .leq (.var 0) inV, .cmp .leq inV (.var 1)], [(inV, -9223372036854775808, 9223372036854775807)]⟩
def insT : VT := (.ite (.cmp .eql (.var 2) (.lit 1)) (.leaf (.int .i64 (.var 1))) (.ite (.cmp .eql (.bin .add .u64 (.conv .u64 (.op .sub (.var 1) (.var 0))) (.lit 1)) (.lit 0)) (.leaf (.int .i64 (.var 0))) (.leaf (.int .i64 (.bin .add .i64 (.var 0) (.conv .i64 (.op .tmod (.var 2) (.bin .add .u64 (.conv .u64 (.op .sub (.var 1) (.var 0))) (.lit 1)))))))))
theorem wrapU (x : Int) : IntKind.u64.wrap x = x % 18446744073709551616 := by simp [IntKind.wrap, IntKind.bits, IntKind.signed]
theorem den_conv' (env : Env) (k : IntKind) (a : E) : (E.conv k a).den env = k.wrap (a.den env) := rfl
theorem ins_ok {fn : Nat → List Int → Int} (h : GoodI fn) : insFC.OK Try.prog fn := by
  refine FC.ok_num (X := Xf) (d := 0) (n := 100000) (t := insT) mixD (Xf_ok h.l) rfl (by kernel_rfl) (by kernel_rfl) fun r hw hpre => ?_
  obtain ⟨xs0, r0, rfl, w0, _, hw0⟩ := hw
  obtain ⟨xs1, r1, rfl, w1, _, hw1⟩ := hw0
  obtain rfl : r1 = [] := hw1
  obtain ⟨a, _, rfl, ga, b, _, rfl, gb, e⟩ := w0
  obtain rfl : _ = ([] : List Int) := e
  obtain ⟨p, _, rfl, gp, e⟩ := w1
  obtain rfl : _ = ([] : List Int) := e
  have hp : 0 ≤ p ∧ p ≤ 18446744073709551615 := wf_rng (gp _ rfl)
  have p1 := hpre _ (List.mem_cons_self ..)
  have p2 := hpre _ (List.mem_cons_of_mem _ (List.mem_cons_self ..))
  have p3 := hpre _ (List.mem_cons_of_mem _ (List.mem_cons_of_mem _ (List.mem_cons_self ..)))
  simp only [den_lit, den_var, den_ite, den_cmp, den_cmpB, den_tst, den_tstF, den_negT, den_negF, den_andT, den_andF, lssT, leqT, gtrT, geqT, eqlT, neqT, lssF, leqF, gtrF, geqF, eqlF, neqF, den_app, den_nilL, den_consL, den_add, den_sub, den_mul, den_tdiv, den_tmod, den_mx, den_mn, den_blit, den_bin, binI, env_v, env_f, List.flatten_cons, List.flatten_nil, List.append_nil, List.cons_append, List.nil_append, List.getD_cons_zero, List.getD_cons_succ, List.getD_nil] at p1 p2 p3
  have hi := ins_in p p3
  refine ⟨?_, ?_, ?_⟩
  · intro be hm
    simp only [insFC, List.mem_cons, List.not_mem_nil, or_false] at hm
    rcases hm with rfl | rfl <;> simp only [inV, den_lit, den_var, den_ite, den_cmp, den_cmpB, den_tst, den_tstF, den_negT, den_negF, den_andT, den_andF, lssT, leqT, gtrT, geqT, eqlT, neqT, lssF, leqF, gtrF, geqF, eqlF, neqF, den_app, den_nilL, den_consL, den_add, den_sub, den_mul, den_tdiv, den_tmod, den_mx, den_mn, den_blit, den_bin, binI, env_v, env_f, List.flatten_cons, List.flatten_nil, List.append_nil, List.cons_append, List.nil_append, List.getD_cons_zero, List.getD_cons_succ, List.getD_nil, h.q2] <;> omega
  · intro x hm
    simp only [insFC, List.mem_singleton] at hm
    subst hm
    simp only [inV, den_lit, den_var, den_ite, den_cmp, den_cmpB, den_tst, den_tstF, den_negT, den_negF, den_andT, den_andF, lssT, leqT, gtrT, geqT, eqlT, neqT, lssF, leqF, gtrF, geqF, eqlF, neqF, den_app, den_nilL, den_consL, den_add, den_sub, den_mul, den_tdiv, den_tmod, den_mx, den_mn, den_blit, den_bin, binI, env_v, env_f, List.flatten_cons, List.flatten_nil, List.append_nil, List.cons_append, List.nil_append, List.getD_cons_zero, List.getD_cons_succ, List.getD_nil, h.q2]
    omega
  · simp only [insT, insFC, inV, VT.holds, SV.eqv, den_lit, den_var, den_ite, den_cmp, den_cmpB, den_tst, den_tstF, den_negT, den_negF, den_andT, den_andF, lssT, leqT, gtrT, geqT, eqlT, neqT, lssF, leqF, gtrF, geqF, eqlF, neqF, den_app, den_nilL, den_consL, den_add, den_sub, den_mul, den_tdiv, den_tmod, den_mx, den_mn, den_blit, den_bin, binI, env_v, env_f, List.flatten_cons, List.flatten_nil, List.append_nil, List.cons_append, List.nil_append, List.getD_cons_zero, List.getD_cons_succ, List.getD_nil, h.q2, true_and, den_conv', wrapU]
    have e1 : (b - a) % 18446744073709551616 = b - a := by omega
    rw [e1, show (b - a + 1) % 18446744073709551616 = b - a + 1 by omega]
    unfold insF
    refine ⟨fun h1 => by rw [if_pos h1], fun h1 => ⟨fun h2 => by omega, fun _ => ?_⟩⟩
    rw [if_neg h1, Int.tmod_eq_emod_of_nonneg hp.1]
    have g1 := Int.emod_nonneg p (b := b - a + 1) (by omega)
    have g2 := Int.emod_lt_of_pos p (b := b - a + 1) (by omega)
    generalize p % (b - a + 1) = z at *
    rw [wrap_i64 (n := z) (by omega) (by omega), wrap_i64 (by omega) (by omega)]
/-- the spans of the inner voltages -/
def sLo : Bool × List (Option IntKind) := (true, [some .i64, some .i64, some .i64, some .i64, some .i64, some .i64, some .i64, some .i64, some .i64, some .i64, some .i64, some .i64, some .i64, some .i64, some .i64, some .i64, some .i64, some .i64, some .i64, some .i64])
def bet (e : E) (lo hi : Int) : List BE := [.cmp .geq e (.lit lo), .cmp .leq e (.lit hi)]
def boxP : List BE := bet (.var 10) 0 1048576 ++ bet (.var 11) 0 1048576 ++ bet (.var 12) 1 4194304 ++ bet (.var 13) 1 4194304 ++ bet (.var 14) 1 4194304 ++ bet (.var 15) 1 4194304 ++ bet (.var 16) 0 4194304 ++ bet (.var 17) 0 4194304 ++ bet (.var 18) (-16384) 16384 ++ bet (.var 19) (-16384) 16384 ++ bet (.var 20) (-1048576) 1048576 ++ bet (.var 21) (-1048576) 1048576 ++ bet (.var 22) (-16384) 16384
def alP : List BE := boxP ++ bet (.var 5) 1 1000 ++ bet (.var 8) 1 1048576
def formBox : SV := .tuple [.agg [i0, i0], .agg [i0, i0]]
def boxT : VT := (.leaf (.tuple [(.agg [(.int .i64 (.op .add (.op .sub (.lit 0) (.app 1 [(.op .mx (.op .mx (.op .mx (.op .mul (.op .mn (.op .mn (.op .mn (.op .mul (.lit 1) (.var 10)) (.op .mul (.lit 1) (.var 11))) (.op .mul (.lit 1) (.var 10))) (.op .mul (.lit 1) (.var 11))) (.var 20)) (.op .mul (.op .mn (.op .mn (.op .mn (.op .mul (.lit 1) (.var 10)) (.op .mul (.lit 1) (.var 11))) (.op .mul (.lit 1) (.var 10))) (.op .mul (.lit 1) (.var 11))) (.var 20))) (.op .mul (.op .mx (.op .mx (.op .mx (.op .mul (.lit 1) (.var 10)) (.op .mul (.lit 1) (.var 11))) (.op .mul (.lit 1) (.var 10))) (.op .mul (.lit 1) (.var 11))) (.var 20))) (.op .mul (.op .mx (.op .mx (.op .mx (.op .mul (.lit 1) (.var 10)) (.op .mul (.lit 1) (.var 11))) (.op .mul (.lit 1) (.var 10))) (.op .mul (.lit 1) (.var 11))) (.var 20))), (.lit 1000)])) (.app 1 [(.op .mn (.op .mn (.op .mn (.op .mul (.op .mn (.op .mn (.op .mn (.op .mul (.op .mn (.op .mn (.op .mn (.op .mul (.lit 1) (.op .add (.var 22) (.var 18))) (.op .mul (.lit 1) (.op .add (.var 22) (.var 19)))) (.op .mul (.lit 1) (.op .add (.var 22) (.var 18)))) (.op .mul (.lit 1) (.op .add (.var 22) (.var 19)))) (.var 14)) (.op .mul (.op .mn (.op .mn (.op .mn (.op .mul (.lit 1) (.op .add (.var 22) (.var 18))) (.op .mul (.lit 1) (.op .add (.var 22) (.var 19)))) (.op .mul (.lit 1) (.op .add (.var 22) (.var 18)))) (.op .mul (.lit 1) (.op .add (.var 22) (.var 19)))) (.var 15))) (.op .mul (.op .mx (.op .mx (.op .mx (.op .mul (.lit 1) (.op .add (.var 22) (.var 18))) (.op .mul (.lit 1) (.op .add (.var 22) (.var 19)))) (.op .mul (.lit 1) (.op .add (.var 22) (.var 18)))) (.op .mul (.lit 1) (.op .add (.var 22) (.var 19)))) (.var 14))) (.op .mul (.op .mx (.op .mx (.op .mx (.op .mul (.lit 1) (.op .add (.var 22) (.var 18))) (.op .mul (.lit 1) (.op .add (.var 22) (.var 19)))) (.op .mul (.lit 1) (.op .add (.var 22) (.var 18)))) (.op .mul (.lit 1) (.op .add (.var 22) (.var 19)))) (.var 15))) (.var 21)) (.op .mul (.op .mn (.op .mn (.op .mn (.op .mul (.op .mn (.op .mn (.op .mn (.op .mul (.lit 1) (.op .add (.var 22) (.var 18))) (.op .mul (.lit 1) (.op .add (.var 22) (.var 19)))) (.op .mul (.lit 1) (.op .add (.var 22) (.var 18)))) (.op .mul (.lit 1) (.op .add (.var 22) (.var 19)))) (.var 14)) (.op .mul (.op .mn (.op .mn (.op .mn (.op .mul (.lit 1) (.op .add (.var 22) (.var 18))) (.op .mul (.lit 1) (.op .add (.var 22) (.var 19)))) (.op .mul (.lit 1) (.op .add (.var 22) (.var 18)))) (.op .mul (.lit 1) (.op .add (.var 22) (.var 19)))) (.var 15))) (.op .mul (.op .mx (.op .mx (.op .mx (.op .mul (.lit 1) (.op .add (.var 22) (.var 18))) (.op .mul (.lit 1) (.op .add (.var 22) (.var 19)))) (.op .mul (.lit 1) (.op .add (.var 22) (.var 18)))) (.op .mul (.lit 1) (.op .add (.var 22) (.var 19)))) (.var 14))) (.op .mul (.op .mx (.op .mx (.op .mx (.op .mul (.lit 1) (.op .add (.var 22) (.var 18))) (.op .mul (.lit 1) (.op .add (.var 22) (.var 19)))) (.op .mul (.lit 1) (.op .add (.var 22) (.var 18)))) (.op .mul (.lit 1) (.op .add (.var 22) (.var 19)))) (.var 15))) (.var 21))) (.op .mul (.op .mx (.op .mx (.op .mx (.op .mul (.op .mn (.op .mn (.op .mn (.op .mul (.lit 1) (.op .add (.var 22) (.var 18))) (.op .mul (.lit 1) (.op .add (.var 22) (.var 19)))) (.op .mul (.lit 1) (.op .add (.var 22) (.var 18)))) (.op .mul (.lit 1) (.op .add (.var 22) (.var 19)))) (.var 14)) (.op .mul (.op .mn (.op .mn (.op .mn (.op .mul (.lit 1) (.op .add (.var 22) (.var 18))) (.op .mul (.lit 1) (.op .add (.var 22) (.var 19)))) (.op .mul (.lit 1) (.op .add (.var 22) (.var 18)))) (.op .mul (.lit 1) (.op .add (.var 22) (.var 19)))) (.var 15))) (.op .mul (.op .mx (.op .mx (.op .mx (.op .mul (.lit 1) (.op .add (.var 22) (.var 18))) (.op .mul (.lit 1) (.op .add (.var 22) (.var 19)))) (.op .mul (.lit 1) (.op .add (.var 22) (.var 18)))) (.op .mul (.lit 1) (.op .add (.var 22) (.var 19)))) (.var 14))) (.op .mul (.op .mx (.op .mx (.op .mx (.op .mul (.lit 1) (.op .add (.var 22) (.var 18))) (.op .mul (.lit 1) (.op .add (.var 22) (.var 19)))) (.op .mul (.lit 1) (.op .add (.var 22) (.var 18)))) (.op .mul (.lit 1) (.op .add (.var 22) (.var 19)))) (.var 15))) (.var 21))) (.op .mul (.op .mx (.op .mx (.op .mx (.op .mul (.op .mn (.op .mn (.op .mn (.op .mul (.lit 1) (.op .add (.var 22) (.var 18))) (.op .mul (.lit 1) (.op .add (.var 22) (.var 19)))) (.op .mul (.lit 1) (.op .add (.var 22) (.var 18)))) (.op .mul (.lit 1) (.op .add (.var 22) (.var 19)))) (.var 14)) (.op .mul (.op .mn (.op .mn (.op .mn (.op .mul (.lit 1) (.op .add (.var 22) (.var 18))) (.op .mul (.lit 1) (.op .add (.var 22) (.var 19)))) (.op .mul (.lit 1) (.op .add (.var 22) (.var 18)))) (.op .mul (.lit 1) (.op .add (.var 22) (.var 19)))) (.var 15))) (.op .mul (.op .mx (.op .mx (.op .mx (.op .mul (.lit 1) (.op .add (.var 22) (.var 18))) (.op .mul (.lit 1) (.op .add (.var 22) (.var 19)))) (.op .mul (.lit 1) (.op .add (.var 22) (.var 18)))) (.op .mul (.lit 1) (.op .add (.var 22) (.var 19)))) (.var 14))) (.op .mul (.op .mx (.op .mx (.op .mx (.op .mul (.lit 1) (.op .add (.var 22) (.var 18))) (.op .mul (.lit 1) (.op .add (.var 22) (.var 19)))) (.op .mul (.lit 1) (.op .add (.var 22) (.var 18)))) (.op .mul (.lit 1) (.op .add (.var 22) (.var 19)))) (.var 15))) (.var 21))), (.lit 1000000)]))), (.int .i64 (.op .add (.op .sub (.lit 0) (.app 1 [(.op .mn (.op .mn (.op .mn (.op .mul (.op .mn (.op .mn (.op .mn (.op .mul (.lit 1) (.var 10)) (.op .mul (.lit 1) (.var 11))) (.op .mul (.lit 1) (.var 10))) (.op .mul (.lit 1) (.var 11))) (.var 20)) (.op .mul (.op .mn (.op .mn (.op .mn (.op .mul (.lit 1) (.var 10)) (.op .mul (.lit 1) (.var 11))) (.op .mul (.lit 1) (.var 10))) (.op .mul (.lit 1) (.var 11))) (.var 20))) (.op .mul (.op .mx (.op .mx (.op .mx (.op .mul (.lit 1) (.var 10)) (.op .mul (.lit 1) (.var 11))) (.op .mul (.lit 1) (.var 10))) (.op .mul (.lit 1) (.var 11))) (.var 20))) (.op .mul (.op .mx (.op .mx (.op .mx (.op .mul (.lit 1) (.var 10)) (.op .mul (.lit 1) (.var 11))) (.op .mul (.lit 1) (.var 10))) (.op .mul (.lit 1) (.var 11))) (.var 20))), (.lit 1000)])) (.app 1 [(.op .mx (.op .mx (.op .mx (.op .mul (.op .mn (.op .mn (.op .mn (.op .mul (.op .mn (.op .mn (.op .mn (.op .mul (.lit 1) (.op .add (.var 22) (.var 18))) (.op .mul (.lit 1) (.op .add (.var 22) (.var 19)))) (.op .mul (.lit 1) (.op .add (.var 22) (.var 18)))) (.op .mul (.lit 1) (.op .add (.var 22) (.var 19)))) (.var 14)) (.op .mul (.op .mn (.op .mn (.op .mn (.op .mul (.lit 1) (.op .add (.var 22) (.var 18))) (.op .mul (.lit 1) (.op .add (.var 22) (.var 19)))) (.op .mul (.lit 1) (.op .add (.var 22) (.var 18)))) (.op .mul (.lit 1) (.op .add (.var 22) (.var 19)))) (.var 15))) (.op .mul (.op .mx (.op .mx (.op .mx (.op .mul (.lit 1) (.op .add (.var 22) (.var 18))) (.op .mul (.lit 1) (.op .add (.var 22) (.var 19)))) (.op .mul (.lit 1) (.op .add (.var 22) (.var 18)))) (.op .mul (.lit 1) (.op .add (.var 22) (.var 19)))) (.var 14))) (.op .mul (.op .mx (.op .mx (.op .mx (.op .mul (.lit 1) (.op .add (.var 22) (.var 18))) (.op .mul (.lit 1) (.op .add (.var 22) (.var 19)))) (.op .mul (.lit 1) (.op .add (.var 22) (.var 18)))) (.op .mul (.lit 1) (.op .add (.var 22) (.var 19)))) (.var 15))) (.var 21)) (.op .mul (.op .mn (.op .mn (.op .mn (.op .mul (.op .mn (.op .mn (.op .mn (.op .mul (.lit 1) (.op .add (.var 22) (.var 18))) (.op .mul (.lit 1) (.op .add (.var 22) (.var 19)))) (.op .mul (.lit 1) (.op .add (.var 22) (.var 18)))) (.op .mul (.lit 1) (.op .add (.var 22) (.var 19)))) (.var 14)) (.op .mul (.op .mn (.op .mn (.op .mn (.op .mul (.lit 1) (.op .add (.var 22) (.var 18))) (.op .mul (.lit 1) (.op .add (.var 22) (.var 19)))) (.op .mul (.lit 1) (.op .add (.var 22) (.var 18)))) (.op .mul (.lit 1) (.op .add (.var 22) (.var 19)))) (.var 15))) (.op .mul (.op .mx (.op .mx (.op .mx (.op .mul (.lit 1) (.op .add (.var 22) (.var 18))) (.op .mul (.lit 1) (.op .add (.var 22) (.var 19)))) (.op .mul (.lit 1) (.op .add (.var 22) (.var 18)))) (.op .mul (.lit 1) (.op .add (.var 22) (.var 19)))) (.var 14))) (.op .mul (.op .mx (.op .mx (.op .mx (.op .mul (.lit 1) (.op .add (.var 22) (.var 18))) (.op .mul (.lit 1) (.op .add (.var 22) (.var 19)))) (.op .mul (.lit 1) (.op .add (.var 22) (.var 18)))) (.op .mul (.lit 1) (.op .add (.var 22) (.var 19)))) (.var 15))) (.var 21))) (.op .mul (.op .mx (.op .mx (.op .mx (.op .mul (.op .mn (.op .mn (.op .mn (.op .mul (.lit 1) (.op .add (.var 22) (.var 18))) (.op .mul (.lit 1) (.op .add (.var 22) (.var 19)))) (.op .mul (.lit 1) (.op .add (.var 22) (.var 18)))) (.op .mul (.lit 1) (.op .add (.var 22) (.var 19)))) (.var 14)) (.op .mul (.op .mn (.op .mn (.op .mn (.op .mul (.lit 1) (.op .add (.var 22) (.var 18))) (.op .mul (.lit 1) (.op .add (.var 22) (.var 19)))) (.op .mul (.lit 1) (.op .add (.var 22) (.var 18)))) (.op .mul (.lit 1) (.op .add (.var 22) (.var 19)))) (.var 15))) (.op .mul (.op .mx (.op .mx (.op .mx (.op .mul (.lit 1) (.op .add (.var 22) (.var 18))) (.op .mul (.lit 1) (.op .add (.var 22) (.var 19)))) (.op .mul (.lit 1) (.op .add (.var 22) (.var 18)))) (.op .mul (.lit 1) (.op .add (.var 22) (.var 19)))) (.var 14))) (.op .mul (.op .mx (.op .mx (.op .mx (.op .mul (.lit 1) (.op .add (.var 22) (.var 18))) (.op .mul (.lit 1) (.op .add (.var 22) (.var 19)))) (.op .mul (.lit 1) (.op .add (.var 22) (.var 18)))) (.op .mul (.lit 1) (.op .add (.var 22) (.var 19)))) (.var 15))) (.var 21))) (.op .mul (.op .mx (.op .mx (.op .mx (.op .mul (.op .mn (.op .mn (.op .mn (.op .mul (.lit 1) (.op .add (.var 22) (.var 18))) (.op .mul (.lit 1) (.op .add (.var 22) (.var 19)))) (.op .mul (.lit 1) (.op .add (.var 22) (.var 18)))) (.op .mul (.lit 1) (.op .add (.var 22) (.var 19)))) (.var 14)) (.op .mul (.op .mn (.op .mn (.op .mn (.op .mul (.lit 1) (.op .add (.var 22) (.var 18))) (.op .mul (.lit 1) (.op .add (.var 22) (.var 19)))) (.op .mul (.lit 1) (.op .add (.var 22) (.var 18)))) (.op .mul (.lit 1) (.op .add (.var 22) (.var 19)))) (.var 15))) (.op .mul (.op .mx (.op .mx (.op .mx (.op .mul (.lit 1) (.op .add (.var 22) (.var 18))) (.op .mul (.lit 1) (.op .add (.var 22) (.var 19)))) (.op .mul (.lit 1) (.op .add (.var 22) (.var 18)))) (.op .mul (.lit 1) (.op .add (.var 22) (.var 19)))) (.var 14))) (.op .mul (.op .mx (.op .mx (.op .mx (.op .mul (.lit 1) (.op .add (.var 22) (.var 18))) (.op .mul (.lit 1) (.op .add (.var 22) (.var 19)))) (.op .mul (.lit 1) (.op .add (.var 22) (.var 18)))) (.op .mul (.lit 1) (.op .add (.var 22) (.var 19)))) (.var 15))) (.var 21))), (.lit 1000000)])))]), (.agg [(.int .i64 (.op .sub (.op .sub (.op .sub (.lit 0) (.app 1 [(.op .mx (.op .mx (.op .mx (.op .mul (.op .mn (.op .mn (.op .mn (.op .mul (.lit 1) (.var 10)) (.op .mul (.lit 1) (.var 11))) (.op .mul (.lit 1) (.var 10))) (.op .mul (.lit 1) (.var 11))) (.var 21)) (.op .mul (.op .mn (.op .mn (.op .mn (.op .mul (.lit 1) (.var 10)) (.op .mul (.lit 1) (.var 11))) (.op .mul (.lit 1) (.var 10))) (.op .mul (.lit 1) (.var 11))) (.var 21))) (.op .mul (.op .mx (.op .mx (.op .mx (.op .mul (.lit 1) (.var 10)) (.op .mul (.lit 1) (.var 11))) (.op .mul (.lit 1) (.var 10))) (.op .mul (.lit 1) (.var 11))) (.var 21))) (.op .mul (.op .mx (.op .mx (.op .mx (.op .mul (.lit 1) (.var 10)) (.op .mul (.lit 1) (.var 11))) (.op .mul (.lit 1) (.var 10))) (.op .mul (.lit 1) (.var 11))) (.var 21))), (.lit 1000)])) (.app 1 [(.op .mx (.op .mx (.op .mx (.op .mul (.op .mn (.op .mn (.op .mn (.op .mul (.op .mn (.op .mn (.op .mn (.op .mul (.lit 1) (.op .add (.var 22) (.var 18))) (.op .mul (.lit 1) (.op .add (.var 22) (.var 19)))) (.op .mul (.lit 1) (.op .add (.var 22) (.var 18)))) (.op .mul (.lit 1) (.op .add (.var 22) (.var 19)))) (.var 12)) (.op .mul (.op .mn (.op .mn (.op .mn (.op .mul (.lit 1) (.op .add (.var 22) (.var 18))) (.op .mul (.lit 1) (.op .add (.var 22) (.var 19)))) (.op .mul (.lit 1) (.op .add (.var 22) (.var 18)))) (.op .mul (.lit 1) (.op .add (.var 22) (.var 19)))) (.var 13))) (.op .mul (.op .mx (.op .mx (.op .mx (.op .mul (.lit 1) (.op .add (.var 22) (.var 18))) (.op .mul (.lit 1) (.op .add (.var 22) (.var 19)))) (.op .mul (.lit 1) (.op .add (.var 22) (.var 18)))) (.op .mul (.lit 1) (.op .add (.var 22) (.var 19)))) (.var 12))) (.op .mul (.op .mx (.op .mx (.op .mx (.op .mul (.lit 1) (.op .add (.var 22) (.var 18))) (.op .mul (.lit 1) (.op .add (.var 22) (.var 19)))) (.op .mul (.lit 1) (.op .add (.var 22) (.var 18)))) (.op .mul (.lit 1) (.op .add (.var 22) (.var 19)))) (.var 13))) (.var 20)) (.op .mul (.op .mn (.op .mn (.op .mn (.op .mul (.op .mn (.op .mn (.op .mn (.op .mul (.lit 1) (.op .add (.var 22) (.var 18))) (.op .mul (.lit 1) (.op .add (.var 22) (.var 19)))) (.op .mul (.lit 1) (.op .add (.var 22) (.var 18)))) (.op .mul (.lit 1) (.op .add (.var 22) (.var 19)))) (.var 12)) (.op .mul (.op .mn (.op .mn (.op .mn (.op .mul (.lit 1) (.op .add (.var 22) (.var 18))) (.op .mul (.lit 1) (.op .add (.var 22) (.var 19)))) (.op .mul (.lit 1) (.op .add (.var 22) (.var 18)))) (.op .mul (.lit 1) (.op .add (.var 22) (.var 19)))) (.var 13))) (.op .mul (.op .mx (.op .mx (.op .mx (.op .mul (.lit 1) (.op .add (.var 22) (.var 18))) (.op .mul (.lit 1) (.op .add (.var 22) (.var 19)))) (.op .mul (.lit 1) (.op .add (.var 22) (.var 18)))) (.op .mul (.lit 1) (.op .add (.var 22) (.var 19)))) (.var 12))) (.op .mul (.op .mx (.op .mx (.op .mx (.op .mul (.lit 1) (.op .add (.var 22) (.var 18))) (.op .mul (.lit 1) (.op .add (.var 22) (.var 19)))) (.op .mul (.lit 1) (.op .add (.var 22) (.var 18)))) (.op .mul (.lit 1) (.op .add (.var 22) (.var 19)))) (.var 13))) (.var 20))) (.op .mul (.op .mx (.op .mx (.op .mx (.op .mul (.op .mn (.op .mn (.op .mn (.op .mul (.lit 1) (.op .add (.var 22) (.var 18))) (.op .mul (.lit 1) (.op .add (.var 22) (.var 19)))) (.op .mul (.lit 1) (.op .add (.var 22) (.var 18)))) (.op .mul (.lit 1) (.op .add (.var 22) (.var 19)))) (.var 12)) (.op .mul (.op .mn (.op .mn (.op .mn (.op .mul (.lit 1) (.op .add (.var 22) (.var 18))) (.op .mul (.lit 1) (.op .add (.var 22) (.var 19)))) (.op .mul (.lit 1) (.op .add (.var 22) (.var 18)))) (.op .mul (.lit 1) (.op .add (.var 22) (.var 19)))) (.var 13))) (.op .mul (.op .mx (.op .mx (.op .mx (.op .mul (.lit 1) (.op .add (.var 22) (.var 18))) (.op .mul (.lit 1) (.op .add (.var 22) (.var 19)))) (.op .mul (.lit 1) (.op .add (.var 22) (.var 18)))) (.op .mul (.lit 1) (.op .add (.var 22) (.var 19)))) (.var 12))) (.op .mul (.op .mx (.op .mx (.op .mx (.op .mul (.lit 1) (.op .add (.var 22) (.var 18))) (.op .mul (.lit 1) (.op .add (.var 22) (.var 19)))) (.op .mul (.lit 1) (.op .add (.var 22) (.var 18)))) (.op .mul (.lit 1) (.op .add (.var 22) (.var 19)))) (.var 13))) (.var 20))) (.op .mul (.op .mx (.op .mx (.op .mx (.op .mul (.op .mn (.op .mn (.op .mn (.op .mul (.lit 1) (.op .add (.var 22) (.var 18))) (.op .mul (.lit 1) (.op .add (.var 22) (.var 19)))) (.op .mul (.lit 1) (.op .add (.var 22) (.var 18)))) (.op .mul (.lit 1) (.op .add (.var 22) (.var 19)))) (.var 12)) (.op .mul (.op .mn (.op .mn (.op .mn (.op .mul (.lit 1) (.op .add (.var 22) (.var 18))) (.op .mul (.lit 1) (.op .add (.var 22) (.var 19)))) (.op .mul (.lit 1) (.op .add (.var 22) (.var 18)))) (.op .mul (.lit 1) (.op .add (.var 22) (.var 19)))) (.var 13))) (.op .mul (.op .mx (.op .mx (.op .mx (.op .mul (.lit 1) (.op .add (.var 22) (.var 18))) (.op .mul (.lit 1) (.op .add (.var 22) (.var 19)))) (.op .mul (.lit 1) (.op .add (.var 22) (.var 18)))) (.op .mul (.lit 1) (.op .add (.var 22) (.var 19)))) (.var 12))) (.op .mul (.op .mx (.op .mx (.op .mx (.op .mul (.lit 1) (.op .add (.var 22) (.var 18))) (.op .mul (.lit 1) (.op .add (.var 22) (.var 19)))) (.op .mul (.lit 1) (.op .add (.var 22) (.var 18)))) (.op .mul (.lit 1) (.op .add (.var 22) (.var 19)))) (.var 13))) (.var 20))), (.lit 1000000)])) (.op .mx (.op .mx (.op .mx (.op .mul (.op .mn (.op .mn (.op .mn (.op .mul (.lit 1) (.op .add (.var 22) (.var 18))) (.op .mul (.lit 1) (.op .add (.var 22) (.var 19)))) (.op .mul (.lit 1) (.op .add (.var 22) (.var 18)))) (.op .mul (.lit 1) (.op .add (.var 22) (.var 19)))) (.var 16)) (.op .mul (.op .mn (.op .mn (.op .mn (.op .mul (.lit 1) (.op .add (.var 22) (.var 18))) (.op .mul (.lit 1) (.op .add (.var 22) (.var 19)))) (.op .mul (.lit 1) (.op .add (.var 22) (.var 18)))) (.op .mul (.lit 1) (.op .add (.var 22) (.var 19)))) (.var 17))) (.op .mul (.op .mx (.op .mx (.op .mx (.op .mul (.lit 1) (.op .add (.var 22) (.var 18))) (.op .mul (.lit 1) (.op .add (.var 22) (.var 19)))) (.op .mul (.lit 1) (.op .add (.var 22) (.var 18)))) (.op .mul (.lit 1) (.op .add (.var 22) (.var 19)))) (.var 16))) (.op .mul (.op .mx (.op .mx (.op .mx (.op .mul (.lit 1) (.op .add (.var 22) (.var 18))) (.op .mul (.lit 1) (.op .add (.var 22) (.var 19)))) (.op .mul (.lit 1) (.op .add (.var 22) (.var 18)))) (.op .mul (.lit 1) (.op .add (.var 22) (.var 19)))) (.var 17))))), (.int .i64 (.op .sub (.op .sub (.op .sub (.lit 0) (.app 1 [(.op .mn (.op .mn (.op .mn (.op .mul (.op .mn (.op .mn (.op .mn (.op .mul (.lit 1) (.var 10)) (.op .mul (.lit 1) (.var 11))) (.op .mul (.lit 1) (.var 10))) (.op .mul (.lit 1) (.var 11))) (.var 21)) (.op .mul (.op .mn (.op .mn (.op .mn (.op .mul (.lit 1) (.var 10)) (.op .mul (.lit 1) (.var 11))) (.op .mul (.lit 1) (.var 10))) (.op .mul (.lit 1) (.var 11))) (.var 21))) (.op .mul (.op .mx (.op .mx (.op .mx (.op .mul (.lit 1) (.var 10)) (.op .mul (.lit 1) (.var 11))) (.op .mul (.lit 1) (.var 10))) (.op .mul (.lit 1) (.var 11))) (.var 21))) (.op .mul (.op .mx (.op .mx (.op .mx (.op .mul (.lit 1) (.var 10)) (.op .mul (.lit 1) (.var 11))) (.op .mul (.lit 1) (.var 10))) (.op .mul (.lit 1) (.var 11))) (.var 21))), (.lit 1000)])) (.app 1 [(.op .mn (.op .mn (.op .mn (.op .mul (.op .mn (.op .mn (.op .mn (.op .mul (.op .mn (.op .mn (.op .mn (.op .mul (.lit 1) (.op .add (.var 22) (.var 18))) (.op .mul (.lit 1) (.op .add (.var 22) (.var 19)))) (.op .mul (.lit 1) (.op .add (.var 22) (.var 18)))) (.op .mul (.lit 1) (.op .add (.var 22) (.var 19)))) (.var 12)) (.op .mul (.op .mn (.op .mn (.op .mn (.op .mul (.lit 1) (.op .add (.var 22) (.var 18))) (.op .mul (.lit 1) (.op .add (.var 22) (.var 19)))) (.op .mul (.lit 1) (.op .add (.var 22) (.var 18)))) (.op .mul (.lit 1) (.op .add (.var 22) (.var 19)))) (.var 13))) (.op .mul (.op .mx (.op .mx (.op .mx (.op .mul (.lit 1) (.op .add (.var 22) (.var 18))) (.op .mul (.lit 1) (.op .add (.var 22) (.var 19)))) (.op .mul (.lit 1) (.op .add (.var 22) (.var 18)))) (.op .mul (.lit 1) (.op .add (.var 22) (.var 19)))) (.var 12))) (.op .mul (.op .mx (.op .mx (.op .mx (.op .mul (.lit 1) (.op .add (.var 22) (.var 18))) (.op .mul (.lit 1) (.op .add (.var 22) (.var 19)))) (.op .mul (.lit 1) (.op .add (.var 22) (.var 18)))) (.op .mul (.lit 1) (.op .add (.var 22) (.var 19)))) (.var 13))) (.var 20)) (.op .mul (.op .mn (.op .mn (.op .mn (.op .mul (.op .mn (.op .mn (.op .mn (.op .mul (.lit 1) (.op .add (.var 22) (.var 18))) (.op .mul (.lit 1) (.op .add (.var 22) (.var 19)))) (.op .mul (.lit 1) (.op .add (.var 22) (.var 18)))) (.op .mul (.lit 1) (.op .add (.var 22) (.var 19)))) (.var 12)) (.op .mul (.op .mn (.op .mn (.op .mn (.op .mul (.lit 1) (.op .add (.var 22) (.var 18))) (.op .mul (.lit 1) (.op .add (.var 22) (.var 19)))) (.op .mul (.lit 1) (.op .add (.var 22) (.var 18)))) (.op .mul (.lit 1) (.op .add (.var 22) (.var 19)))) (.var 13))) (.op .mul (.op .mx (.op .mx (.op .mx (.op .mul (.lit 1) (.op .add (.var 22) (.var 18))) (.op .mul (.lit 1) (.op .add (.var 22) (.var 19)))) (.op .mul (.lit 1) (.op .add (.var 22) (.var 18)))) (.op .mul (.lit 1) (.op .add (.var 22) (.var 19)))) (.var 12))) (.op .mul (.op .mx (.op .mx (.op .mx (.op .mul (.lit 1) (.op .add (.var 22) (.var 18))) (.op .mul (.lit 1) (.op .add (.var 22) (.var 19)))) (.op .mul (.lit 1) (.op .add (.var 22) (.var 18)))) (.op .mul (.lit 1) (.op .add (.var 22) (.var 19)))) (.var 13))) (.var 20))) (.op .mul (.op .mx (.op .mx (.op .mx (.op .mul (.op .mn (.op .mn (.op .mn (.op .mul (.lit 1) (.op .add (.var 22) (.var 18))) (.op .mul (.lit 1) (.op .add (.var 22) (.var 19)))) (.op .mul (.lit 1) (.op .add (.var 22) (.var 18)))) (.op .mul (.lit 1) (.op .add (.var 22) (.var 19)))) (.var 12)) (.op .mul (.op .mn (.op .mn (.op .mn (.op .mul (.lit 1) (.op .add (.var 22) (.var 18))) (.op .mul (.lit 1) (.op .add (.var 22) (.var 19)))) (.op .mul (.lit 1) (.op .add (.var 22) (.var 18)))) (.op .mul (.lit 1) (.op .add (.var 22) (.var 19)))) (.var 13))) (.op .mul (.op .mx (.op .mx (.op .mx (.op .mul (.lit 1) (.op .add (.var 22) (.var 18))) (.op .mul (.lit 1) (.op .add (.var 22) (.var 19)))) (.op .mul (.lit 1) (.op .add (.var 22) (.var 18)))) (.op .mul (.lit 1) (.op .add (.var 22) (.var 19)))) (.var 12))) (.op .mul (.op .mx (.op .mx (.op .mx (.op .mul (.lit 1) (.op .add (.var 22) (.var 18))) (.op .mul (.lit 1) (.op .add (.var 22) (.var 19)))) (.op .mul (.lit 1) (.op .add (.var 22) (.var 18)))) (.op .mul (.lit 1) (.op .add (.var 22) (.var 19)))) (.var 13))) (.var 20))) (.op .mul (.op .mx (.op .mx (.op .mx (.op .mul (.op .mn (.op .mn (.op .mn (.op .mul (.lit 1) (.op .add (.var 22) (.var 18))) (.op .mul (.lit 1) (.op .add (.var 22) (.var 19)))) (.op .mul (.lit 1) (.op .add (.var 22) (.var 18)))) (.op .mul (.lit 1) (.op .add (.var 22) (.var 19)))) (.var 12)) (.op .mul (.op .mn (.op .mn (.op .mn (.op .mul (.lit 1) (.op .add (.var 22) (.var 18))) (.op .mul (.lit 1) (.op .add (.var 22) (.var 19)))) (.op .mul (.lit 1) (.op .add (.var 22) (.var 18)))) (.op .mul (.lit 1) (.op .add (.var 22) (.var 19)))) (.var 13))) (.op .mul (.op .mx (.op .mx (.op .mx (.op .mul (.lit 1) (.op .add (.var 22) (.var 18))) (.op .mul (.lit 1) (.op .add (.var 22) (.var 19)))) (.op .mul (.lit 1) (.op .add (.var 22) (.var 18)))) (.op .mul (.lit 1) (.op .add (.var 22) (.var 19)))) (.var 12))) (.op .mul (.op .mx (.op .mx (.op .mx (.op .mul (.lit 1) (.op .add (.var 22) (.var 18))) (.op .mul (.lit 1) (.op .add (.var 22) (.var 19)))) (.op .mul (.lit 1) (.op .add (.var 22) (.var 18)))) (.op .mul (.lit 1) (.op .add (.var 22) (.var 19)))) (.var 13))) (.var 20))), (.lit 1000000)])) (.op .mn (.op .mn (.op .mn (.op .mul (.op .mn (.op .mn (.op .mn (.op .mul (.lit 1) (.op .add (.var 22) (.var 18))) (.op .mul (.lit 1) (.op .add (.var 22) (.var 19)))) (.op .mul (.lit 1) (.op .add (.var 22) (.var 18)))) (.op .mul (.lit 1) (.op .add (.var 22) (.var 19)))) (.var 16)) (.op .mul (.op .mn (.op .mn (.op .mn (.op .mul (.lit 1) (.op .add (.var 22) (.var 18))) (.op .mul (.lit 1) (.op .add (.var 22) (.var 19)))) (.op .mul (.lit 1) (.op .add (.var 22) (.var 18)))) (.op .mul (.lit 1) (.op .add (.var 22) (.var 19)))) (.var 17))) (.op .mul (.op .mx (.op .mx (.op .mx (.op .mul (.lit 1) (.op .add (.var 22) (.var 18))) (.op .mul (.lit 1) (.op .add (.var 22) (.var 19)))) (.op .mul (.lit 1) (.op .add (.var 22) (.var 18)))) (.op .mul (.lit 1) (.op .add (.var 22) (.var 19)))) (.var 16))) (.op .mul (.op .mx (.op .mx (.op .mx (.op .mul (.lit 1) (.op .add (.var 22) (.var 18))) (.op .mul (.lit 1) (.op .add (.var 22) (.var 19)))) (.op .mul (.lit 1) (.op .add (.var 22) (.var 18)))) (.op .mul (.lit 1) (.op .add (.var 22) (.var 19)))) (.var 17)))))])]))
def alT : VT := (.leaf (.tuple [(.agg [(.int .i64 (.op .sub (.op .sub (.lit 0) (.app 1 [(.op .mul (.op .add (.var 8) (.var 20)) (.var 12)), (.var 5)])) (.app 100 [(.var 0), (.var 1), (.var 2), (.var 3), (.var 4), (.var 5), (.var 6), (.var 7), (.var 8), (.var 9), (.var 10), (.var 11), (.var 12), (.var 13), (.var 14), (.var 15), (.var 16), (.var 17), (.var 18), (.var 19), (.var 20), (.var 21), (.var 22)]))), (.int .i64 (.op .sub (.app 1 [(.op .sub (.op .mul (.op .add (.op .sub (.var 8) (.var 20)) (.lit 1)) (.var 12)) (.lit 1)), (.var 5)]) (.app 101 [(.var 0), (.var 1), (.var 2), (.var 3), (.var 4), (.var 5), (.var 6), (.var 7), (.var 8), (.var 9), (.var 10), (.var 11), (.var 12), (.var 13), (.var 14), (.var 15), (.var 16), (.var 17), (.var 18), (.var 19), (.var 20), (.var 21), (.var 22)])))]), (.agg [(.int .i64 (.op .sub (.op .sub (.lit 0) (.app 1 [(.op .mul (.op .add (.var 8) (.var 21)) (.var 14)), (.var 5)])) (.app 102 [(.var 0), (.var 1), (.var 2), (.var 3), (.var 4), (.var 5), (.var 6), (.var 7), (.var 8), (.var 9), (.var 10), (.var 11), (.var 12), (.var 13), (.var 14), (.var 15), (.var 16), (.var 17), (.var 18), (.var 19), (.var 20), (.var 21), (.var 22)]))), (.int .i64 (.op .sub (.app 1 [(.op .sub (.op .mul (.op .add (.op .sub (.var 8) (.var 21)) (.lit 1)) (.var 14)) (.lit 1)), (.var 5)]) (.app 103 [(.var 0), (.var 1), (.var 2), (.var 3), (.var 4), (.var 5), (.var 6), (.var 7), (.var 8), (.var 9), (.var 10), (.var 11), (.var 12), (.var 13), (.var 14), (.var 15), (.var 16), (.var 17), (.var 18), (.var 19), (.var 20), (.var 21), (.var 22)])))])]))
theorem FC.more {P : Program} {fn : Nat → List Int → Int} {c : FC} (h : c.OK P fn) (rs : Rngs) (hr : ∀ r, wfAll c.sig r → (∀ b, b ∈ c.pre → b.den (envOf r.flatten fn) = true) → ∀ p, p ∈ rs → p.2.1 ≤ p.1.den (envOf r.flatten fn) ∧ p.1.den (envOf r.flatten fn) ≤ p.2.2) :
    ({ c with rngs := rs } : FC).OK P fn :=
  ⟨h.plain, h.ent, fun r hw hp => ⟨(h.calls r hw hp).1, fun e lo hi hm => hr r hw hp _ hm, (h.calls r hw hp).2.2⟩⟩
theorem fl_in {n k B : Int} (hk : 1 ≤ k) (h0 : -(B * k) ≤ n) (h1 : n ≤ B * k) : -B ≤ n / k ∧ n / k ≤ B := by
  refine ⟨?_, ?_⟩
  · rw [Int.le_ediv_iff_mul_le (by omega), Int.neg_mul]; exact h0
  · have : n / k < B + 1 := (Int.ediv_lt_iff_lt_mul (by omega)).2 (by rw [Int.add_mul]; omega)
    omega
theorem wf20 {xs : List Int} (h : wfL [some .i64, some .i64, some .i64, some .i64, some .i64, some .i64, some .i64, some .i64, some .i64, some .i64, some .i64, some .i64, some .i64, some .i64, some .i64, some .i64, some .i64, some .i64, some .i64, some .i64] xs) : ∃ m0 m1 m2 m3 m4 m5 m6 m7 m8 m9 r0 r1 c0 c1 l0 l1 f0 f1 w0 w1 : Int, xs = [m0, m1, m2, m3, m4, m5, m6, m7, m8, m9, r0, r1, c0, c1, l0, l1, f0, f1, w0, w1] := by
  obtain ⟨m0, _, rfl, _, m1, _, rfl, _, m2, _, rfl, _, m3, _, rfl, _, m4, _, rfl, _, m5, _, rfl, _, m6, _, rfl, _, m7, _, rfl, _, m8, _, rfl, _, m9, _, rfl, _, r0, _, rfl, _, r1, _, rfl, _, c0, _, rfl, _, c1, _, rfl, _, l0, _, rfl, _, l1, _, rfl, _, f0, _, rfl, _, f1, _, rfl, _, w0, _, rfl, _, w1, _, rfl, _, e⟩ := h
  rw [show _ = ([] : List Int) from e]
  exact ⟨m0, m1, m2, m3, m4, m5, m6, m7, m8, m9, r0, r1, c0, c1, l0, l1, f0, f1, w0, w1, rfl⟩
theorem box_val {fn : Nat → List Int → Int} (h : GoodL fn) (hT : TreeIs fn 100 4 boxT) (m0 m1 m2 m3 m4 m5 m6 m7 m8 m9 r0 r1 c0 c1 l0 l1 f0 f1 w0 w1 d q s : Int) :
    fn 100 [m0, m1, m2, m3, m4, m5, m6, m7, m8, m9, r0, r1, c0, c1, l0, l1, f0, f1, w0, w1, d, q, s] = 0 - tH (sL r0 r1) (sH r0 r1) d / 1000 + tL (uL (sL (s + w0) (s + w1)) (sH (s + w0) (s + w1)) l0 l1) (uH (sL (s + w0) (s + w1)) (sH (s + w0) (s + w1)) l0 l1) q / 1000000 ∧
    fn 101 [m0, m1, m2, m3, m4, m5, m6, m7, m8, m9, r0, r1, c0, c1, l0, l1, f0, f1, w0, w1, d, q, s] = 0 - tL (sL r0 r1) (sH r0 r1) d / 1000 + tH (uL (sL (s + w0) (s + w1)) (sH (s + w0) (s + w1)) l0 l1) (uH (sL (s + w0) (s + w1)) (sH (s + w0) (s + w1)) l0 l1) q / 1000000 ∧
    fn 102 [m0, m1, m2, m3, m4, m5, m6, m7, m8, m9, r0, r1, c0, c1, l0, l1, f0, f1, w0, w1, d, q, s] = 0 - tH (sL r0 r1) (sH r0 r1) q / 1000 - tH (uL (sL (s + w0) (s + w1)) (sH (s + w0) (s + w1)) c0 c1) (uH (sL (s + w0) (s + w1)) (sH (s + w0) (s + w1)) c0 c1) d / 1000000 - uH (sL (s + w0) (s + w1)) (sH (s + w0) (s + w1)) f0 f1 ∧
    fn 103 [m0, m1, m2, m3, m4, m5, m6, m7, m8, m9, r0, r1, c0, c1, l0, l1, f0, f1, w0, w1, d, q, s] = 0 - tL (sL r0 r1) (sH r0 r1) q / 1000 - tL (uL (sL (s + w0) (s + w1)) (sH (s + w0) (s + w1)) c0 c1) (uH (sL (s + w0) (s + w1)) (sH (s + w0) (s + w1)) c0 c1) d / 1000000 - uL (sL (s + w0) (s + w1)) (sH (s + w0) (s + w1)) f0 f1 := by
  have e0 := hT 0 [m0, m1, m2, m3, m4, m5, m6, m7, m8, m9, r0, r1, c0, c1, l0, l1, f0, f1, w0, w1, d, q, s] (by decide)
  have e1 := hT 1 [m0, m1, m2, m3, m4, m5, m6, m7, m8, m9, r0, r1, c0, c1, l0, l1, f0, f1, w0, w1, d, q, s] (by decide)
  have e2 := hT 2 [m0, m1, m2, m3, m4, m5, m6, m7, m8, m9, r0, r1, c0, c1, l0, l1, f0, f1, w0, w1, d, q, s] (by decide)
  have e3 := hT 3 [m0, m1, m2, m3, m4, m5, m6, m7, m8, m9, r0, r1, c0, c1, l0, l1, f0, f1, w0, w1, d, q, s] (by decide)
  refine ⟨e0.trans ?_, e1.trans ?_, e2.trans ?_, e3.trans ?_⟩ <;>
    (simp only [VT.fnJ, boxT, VT.at, SV.nums, SV.numsL, den_lit, den_var, den_ite, den_cmp, den_cmpB, den_tst, den_tstF, den_negT, den_negF, den_andT, den_andF, lssT, leqT, gtrT, geqT, eqlT, neqT, lssF, leqF, gtrF, geqF, eqlF, neqF, den_app, den_nilL, den_consL, den_add, den_sub, den_mul, den_tdiv, den_tmod, den_mx, den_mn, den_blit, den_bin, binI, env_v, env_f, List.flatten_cons, List.flatten_nil, List.append_nil, List.cons_append, List.nil_append, List.getD_cons_zero, List.getD_cons_succ, List.getD_nil, h.q1]; rfl)
theorem al_val {fn : Nat → List Int → Int} (h : GoodL fn) (hA : TreeIs fn 110 4 alT) (m0 m1 m2 m3 m4 m5 m6 m7 m8 m9 r0 r1 c0 c1 l0 l1 f0 f1 w0 w1 d q s : Int) :
    fn 110 [m0, m1, m2, m3, m4, m5, m6, m7, m8, m9, r0, r1, c0, c1, l0, l1, f0, f1, w0, w1, d, q, s] = 0 - (m8 + d) * c0 / m5 - fn 100 [m0, m1, m2, m3, m4, m5, m6, m7, m8, m9, r0, r1, c0, c1, l0, l1, f0, f1, w0, w1, d, q, s] ∧ fn 111 [m0, m1, m2, m3, m4, m5, m6, m7, m8, m9, r0, r1, c0, c1, l0, l1, f0, f1, w0, w1, d, q, s] = ((m8 - d + 1) * c0 - 1) / m5 - fn 101 [m0, m1, m2, m3, m4, m5, m6, m7, m8, m9, r0, r1, c0, c1, l0, l1, f0, f1, w0, w1, d, q, s] ∧
    fn 112 [m0, m1, m2, m3, m4, m5, m6, m7, m8, m9, r0, r1, c0, c1, l0, l1, f0, f1, w0, w1, d, q, s] = 0 - (m8 + q) * l0 / m5 - fn 102 [m0, m1, m2, m3, m4, m5, m6, m7, m8, m9, r0, r1, c0, c1, l0, l1, f0, f1, w0, w1, d, q, s] ∧ fn 113 [m0, m1, m2, m3, m4, m5, m6, m7, m8, m9, r0, r1, c0, c1, l0, l1, f0, f1, w0, w1, d, q, s] = ((m8 - q + 1) * l0 - 1) / m5 - fn 103 [m0, m1, m2, m3, m4, m5, m6, m7, m8, m9, r0, r1, c0, c1, l0, l1, f0, f1, w0, w1, d, q, s] := by
  have e0 := hA 0 [m0, m1, m2, m3, m4, m5, m6, m7, m8, m9, r0, r1, c0, c1, l0, l1, f0, f1, w0, w1, d, q, s] (by decide)
  have e1 := hA 1 [m0, m1, m2, m3, m4, m5, m6, m7, m8, m9, r0, r1, c0, c1, l0, l1, f0, f1, w0, w1, d, q, s] (by decide)
  have e2 := hA 2 [m0, m1, m2, m3, m4, m5, m6, m7, m8, m9, r0, r1, c0, c1, l0, l1, f0, f1, w0, w1, d, q, s] (by decide)
  have e3 := hA 3 [m0, m1, m2, m3, m4, m5, m6, m7, m8, m9, r0, r1, c0, c1, l0, l1, f0, f1, w0, w1, d, q, s] (by decide)
  refine ⟨e0.trans ?_, e1.trans ?_, e2.trans ?_, e3.trans ?_⟩ <;>
    (simp only [VT.fnJ, alT, VT.at, SV.nums, SV.numsL, den_lit, den_var, den_ite, den_cmp, den_cmpB, den_tst, den_tstF, den_negT, den_negF, den_andT, den_andF, lssT, leqT, gtrT, geqT, eqlT, neqT, lssF, leqF, gtrF, geqF, eqlF, neqF, den_app, den_nilL, den_consL, den_add, den_sub, den_mul, den_tdiv, den_tmod, den_mx, den_mn, den_blit, den_bin, binI, env_v, env_f, List.flatten_cons, List.flatten_nil, List.append_nil, List.cons_append, List.nil_append, List.getD_cons_zero, List.getD_cons_succ, List.getD_nil, h.q1])
theorem s_bd {a b B : Int} (h0 : -B ≤ a) (h1 : a ≤ B) (h2 : -B ≤ b) (h3 : b ≤ B) : (-B ≤ sL a b ∧ sL a b ≤ B) ∧ (-B ≤ sH a b ∧ sH a b ≤ B) := by unfold sL sH; omega
/-- what all inner voltages are less than -/
theorem box_bd {fn : Nat → List Int → Int} (h : GoodL fn) (hT : TreeIs fn 100 4 boxT) {m0 m1 m2 m3 m4 m5 m6 m7 m8 m9 r0 r1 c0 c1 l0 l1 f0 f1 w0 w1 d q s : Int} (hr0 : 0 ≤ r0 ∧ r0 ≤ 1048576) (hr1 : 0 ≤ r1 ∧ r1 ≤ 1048576) (hc0 : 1 ≤ c0 ∧ c0 ≤ 4194304) (hc1 : 1 ≤ c1 ∧ c1 ≤ 4194304) (hl0 : 1 ≤ l0 ∧ l0 ≤ 4194304) (hl1 : 1 ≤ l1 ∧ l1 ≤ 4194304) (hf0 : 0 ≤ f0 ∧ f0 ≤ 4194304) (hf1 : 0 ≤ f1 ∧ f1 ≤ 4194304)
    (hw0 : -16384 ≤ w0 ∧ w0 ≤ 16384) (hw1 : -16384 ≤ w1 ∧ w1 ≤ 16384) (hd : -1048576 ≤ d ∧ d ≤ 1048576) (hq : -1048576 ≤ q ∧ q ≤ 1048576) (hs : -16384 ≤ s ∧ s ≤ 16384) :
    (-1099511627776 ≤ fn 100 [m0, m1, m2, m3, m4, m5, m6, m7, m8, m9, r0, r1, c0, c1, l0, l1, f0, f1, w0, w1, d, q, s] ∧ fn 100 [m0, m1, m2, m3, m4, m5, m6, m7, m8, m9, r0, r1, c0, c1, l0, l1, f0, f1, w0, w1, d, q, s] ≤ 1099511627776) ∧ (-1099511627776 ≤ fn 101 [m0, m1, m2, m3, m4, m5, m6, m7, m8, m9, r0, r1, c0, c1, l0, l1, f0, f1, w0, w1, d, q, s] ∧ fn 101 [m0, m1, m2, m3, m4, m5, m6, m7, m8, m9, r0, r1, c0, c1, l0, l1, f0, f1, w0, w1, d, q, s] ≤ 1099511627776) ∧ (-1099511627776 ≤ fn 102 [m0, m1, m2, m3, m4, m5, m6, m7, m8, m9, r0, r1, c0, c1, l0, l1, f0, f1, w0, w1, d, q, s] ∧ fn 102 [m0, m1, m2, m3, m4, m5, m6, m7, m8, m9, r0, r1, c0, c1, l0, l1, f0, f1, w0, w1, d, q, s] ≤ 1099511627776) ∧ (-1099511627776 ≤ fn 103 [m0, m1, m2, m3, m4, m5, m6, m7, m8, m9, r0, r1, c0, c1, l0, l1, f0, f1, w0, w1, d, q, s] ∧ fn 103 [m0, m1, m2, m3, m4, m5, m6, m7, m8, m9, r0, r1, c0, c1, l0, l1, f0, f1, w0, w1, d, q, s] ≤ 1099511627776) := by
  obtain ⟨e0, e1, e2, e3⟩ := box_val h hT m0 m1 m2 m3 m4 m5 m6 m7 m8 m9 r0 r1 c0 c1 l0 l1 f0 f1 w0 w1 d q s
  rw [e0, e1, e2, e3]
  have tb : ∀ p z y B Y : Int, 0 ≤ B → 0 ≤ Y → (-B ≤ p ∧ p ≤ B) → (-B ≤ z ∧ z ≤ B) → (-Y ≤ y ∧ y ≤ Y) → (-(B * Y) ≤ tL p z y ∧ tL p z y ≤ B * Y) ∧ (-(B * Y) ≤ tH p z y ∧ tH p z y ≤ B * Y) := by
    intro p z y B Y hB hY h1 h2 h3
    have g1 := box_mul h1.1 h1.2 h3.1 h3.2
    have g2 := box_mul h2.1 h2.2 h3.1 h3.2
    rw [Int.neg_mul, Int.neg_mul, Int.mul_neg, Int.neg_neg] at g1 g2
    have := Int.mul_nonneg hB hY
    unfold tL tH
    generalize B * Y = c at *
    omega
  have ub : ∀ p z y x B Y : Int, 0 ≤ B → 0 ≤ Y → (-B ≤ p ∧ p ≤ B) → (-B ≤ z ∧ z ≤ B) → (-Y ≤ y ∧ y ≤ Y) → (-Y ≤ x ∧ x ≤ Y) → (-(B * Y) ≤ uL p z y x ∧ uL p z y x ≤ B * Y) ∧ (-(B * Y) ≤ uH p z y x ∧ uH p z y x ≤ B * Y) := by
    intro p z y x B Y hB hY h1 h2 h3 h4
    have g1 := box_mul h1.1 h1.2 h3.1 h3.2
    have g2 := box_mul h2.1 h2.2 h3.1 h3.2
    have g3 := box_mul h1.1 h1.2 h4.1 h4.2
    have g4 := box_mul h2.1 h2.2 h4.1 h4.2
    rw [Int.neg_mul, Int.neg_mul, Int.mul_neg, Int.neg_neg] at g1 g2 g3 g4
    have := Int.mul_nonneg hB hY
    unfold uL uH
    generalize B * Y = c at *
    omega
  have sr := s_bd (B := 1048576) (a := r0) (b := r1) (by omega) (by omega) (by omega) (by omega)
  have sw := s_bd (B := 32768) (a := s + w0) (b := s + w1) (by omega) (by omega) (by omega) (by omega)
  generalize sL r0 r1 = R0 at *
  generalize sH r0 r1 = R1 at *
  generalize sL (s + w0) (s + w1) = W0 at *
  generalize sH (s + w0) (s + w1) = W1 at *
  have ul := ub W0 W1 l0 l1 32768 4194304 (by decide) (by decide) sw.1 sw.2 (by omega) (by omega)
  have uc := ub W0 W1 c0 c1 32768 4194304 (by decide) (by decide) sw.1 sw.2 (by omega) (by omega)
  have uf := ub W0 W1 f0 f1 32768 4194304 (by decide) (by decide) sw.1 sw.2 (by omega) (by omega)
  generalize uL W0 W1 l0 l1 = L0 at *
  generalize uH W0 W1 l0 l1 = L1 at *
  generalize uL W0 W1 c0 c1 = C0 at *
  generalize uH W0 W1 c0 c1 = C1 at *
  generalize uL W0 W1 f0 f1 = F0 at *
  generalize uH W0 W1 f0 f1 = F1 at *
  have trd := tb R0 R1 d 1048576 1048576 (by decide) (by decide) sr.1 sr.2 hd
  have trq := tb R0 R1 q 1048576 1048576 (by decide) (by decide) sr.1 sr.2 hq
  have tl := tb L0 L1 q (32768 * 4194304) 1048576 (by decide) (by decide) ul.1 ul.2 hq
  have tc := tb C0 C1 d (32768 * 4194304) 1048576 (by decide) (by decide) uc.1 uc.2 hd
  generalize tL R0 R1 d = a1 at *
  generalize tH R0 R1 d = a2 at *
  generalize tL R0 R1 q = a3 at *
  generalize tH R0 R1 q = a4 at *
  generalize tL L0 L1 q = a5 at *
  generalize tH L0 L1 q = a6 at *
  generalize tL C0 C1 d = a7 at *
  generalize tH C0 C1 d = a8 at *
  clear tb ub
  have g1 := fl_in (n := a1) (k := 1000) (B := 1099511628) (by decide) (by omega) (by omega)
  have g2 := fl_in (n := a2) (k := 1000) (B := 1099511628) (by decide) (by omega) (by omega)
  have g3 := fl_in (n := a3) (k := 1000) (B := 1099511628) (by decide) (by omega) (by omega)
  have g4 := fl_in (n := a4) (k := 1000) (B := 1099511628) (by decide) (by omega) (by omega)
  have g5 := fl_in (n := a5) (k := 1000000) (B := 274877906944) (by decide) (by omega) (by omega)
  have g6 := fl_in (n := a6) (k := 1000000) (B := 274877906944) (by decide) (by omega) (by omega)
  have g7 := fl_in (n := a7) (k := 1000000) (B := 274877906944) (by decide) (by omega) (by omega)
  have g8 := fl_in (n := a8) (k := 1000000) (B := 274877906944) (by decide) (by omega) (by omega)
  generalize a1 / 1000 = b1 at *
  generalize a2 / 1000 = b2 at *
  generalize a3 / 1000 = b3 at *
  generalize a4 / 1000 = b4 at *
  generalize a5 / 1000000 = b5 at *
  generalize a6 / 1000000 = b6 at *
  generalize a7 / 1000000 = b7 at *
  generalize a8 / 1000000 = b8 at *
  clear e0 e1 e2 e3 trd trq tl tc
  omega
/-- the inner voltages of a motor within its tolerances -/
theorem box_in {fn : Nat → List Int → Int} (h : GoodL fn) (hT : TreeIs fn 100 4 boxT) {m0 m1 m2 m3 m4 m5 m6 m7 m8 m9 r0 r1 c0 c1 l0 l1 f0 f1 w0 w1 d q s : Int} {R C L F e : Int} (hR : r0 ≤ R ∧ R ≤ r1) (hC : c0 ≤ C ∧ C ≤ c1) (hL : l0 ≤ L ∧ L ≤ l1) (hF : f0 ≤ F ∧ F ≤ f1) (he : w0 ≤ e ∧ e ≤ w1) :
    (fn 100 [m0, m1, m2, m3, m4, m5, m6, m7, m8, m9, r0, r1, c0, c1, l0, l1, f0, f1, w0, w1, d, q, s] ≤ 0 - R * d / 1000 + (s + e) * L * q / 1000000 ∧ 0 - R * d / 1000 + (s + e) * L * q / 1000000 ≤ fn 101 [m0, m1, m2, m3, m4, m5, m6, m7, m8, m9, r0, r1, c0, c1, l0, l1, f0, f1, w0, w1, d, q, s]) ∧
    (fn 102 [m0, m1, m2, m3, m4, m5, m6, m7, m8, m9, r0, r1, c0, c1, l0, l1, f0, f1, w0, w1, d, q, s] ≤ 0 - R * q / 1000 - (s + e) * C * d / 1000000 - (s + e) * F ∧ 0 - R * q / 1000 - (s + e) * C * d / 1000000 - (s + e) * F ≤ fn 103 [m0, m1, m2, m3, m4, m5, m6, m7, m8, m9, r0, r1, c0, c1, l0, l1, f0, f1, w0, w1, d, q, s]) := by
  obtain ⟨e0, e1, e2, e3⟩ := box_val h hT m0 m1 m2 m3 m4 m5 m6 m7 m8 m9 r0 r1 c0 c1 l0 l1 f0 f1 w0 w1 d q s
  rw [e0, e1, e2, e3]
  have sr := s_in hR.1 hR.2
  have sw := s_in (a := s + w0) (b := s + w1) (x := s + e) (by omega) (by omega)
  have td := t_in d sr.1 sr.2
  have tq := t_in q sr.1 sr.2
  have ul := u_in sw.1 sw.2 hL.1 hL.2
  have uc := u_in sw.1 sw.2 hC.1 hC.2
  have uf := u_in sw.1 sw.2 hF.1 hF.2
  have tl := t_in q ul.1 ul.2
  have tc := t_in d uc.1 uc.2
  have k1 := fl_mono (k := 1000) (by decide) td.1
  have k2 := fl_mono (k := 1000) (by decide) td.2
  have k3 := fl_mono (k := 1000) (by decide) tq.1
  have k4 := fl_mono (k := 1000) (by decide) tq.2
  have k5 := fl_mono (k := 1000000) (by decide) tl.1
  have k6 := fl_mono (k := 1000000) (by decide) tl.2
  have k7 := fl_mono (k := 1000000) (by decide) tc.1
  have k8 := fl_mono (k := 1000000) (by decide) tc.2
  omega
def boxR : Rngs := [(.app 100 (varsE0 23), -1099511627776, 1099511627776), (.app 101 (varsE0 23), -1099511627776, 1099511627776), (.app 102 (varsE0 23), -1099511627776, 1099511627776), (.app 103 (varsE0 23), -1099511627776, 1099511627776)]
def alR : Rngs := [(.app 110 (varsE0 23), -1125899906842624, 1125899906842624), (.app 111 (varsE0 23), -1125899906842624, 1125899906842624), (.app 112 (varsE0 23), -1125899906842624, 1125899906842624), (.app 113 (varsE0 23), -1125899906842624, 1125899906842624)]
def boxF0 : FC := pairFC 70 [sLo, sI, sI, sI] boxP formBox 100 []
def boxFC : FC := { boxF0 with rngs := boxR }
theorem open23 {r : List (List Int)} (hw : wfAll [sLo, sI, sI, sI] r) : ∃ m0 m1 m2 m3 m4 m5 m6 m7 m8 m9 r0 r1 c0 c1 l0 l1 f0 f1 w0 w1 d q s : Int, r.flatten = [m0, m1, m2, m3, m4, m5, m6, m7, m8, m9, r0, r1, c0, c1, l0, l1, f0, f1, w0, w1, d, q, s] := by
  obtain ⟨xs0, t0, rfl, g0, _, h0⟩ := hw
  obtain ⟨xs1, t1, rfl, g1, _, h1⟩ := h0
  obtain ⟨xs2, t2, rfl, g2, _, h2⟩ := h1
  obtain ⟨xs3, t3, rfl, g3, _, h3⟩ := h2
  obtain rfl : t3 = [] := h3
  obtain ⟨m0, m1, m2, m3, m4, m5, m6, m7, m8, m9, r0, r1, c0, c1, l0, l1, f0, f1, w0, w1, rfl⟩ := wf20 g0
  obtain ⟨d, rfl, _⟩ := wfI1 g1
  obtain ⟨q, rfl, _⟩ := wfI1 g2
  obtain ⟨s, rfl, _⟩ := wfI1 g3
  exact ⟨m0, m1, m2, m3, m4, m5, m6, m7, m8, m9, r0, r1, c0, c1, l0, l1, f0, f1, w0, w1, d, q, s, rfl⟩
theorem box_ok {fn : Nat → List Int → Int} (h : GoodL fn) (hT : TreeIs fn 100 4 boxT) : boxFC.OK Try.prog fn := by
  refine FC.more (c := boxF0) (pair_ok (X := Xf) (d := 0) (n := 100000) boxT boxT mixD (Xf_ok h) hT (by kernel_rfl) (by kernel_rfl) (by kernel_rfl) (by kernel_rfl) (by kernel_rfl) (by kernel_rfl) (by kernel_rfl)) boxR ?_
  intro r hw hp p hm
  obtain ⟨m0, m1, m2, m3, m4, m5, m6, m7, m8, m9, r0, r1, c0, c1, l0, l1, f0, f1, w0, w1, d, q, s, e⟩ := open23 hw
  have hp' : ∀ b, b ∈ boxP → b.den (envOf r.flatten fn) = true := hp
  rw [e] at hp' ⊢
  simp only [boxP, bet, List.mem_append, List.mem_cons, List.not_mem_nil, or_false, forall_eq_or_imp, forall_eq, or_imp, forall_and, den_lit, den_var, den_ite, den_cmp, den_cmpB, den_tst, den_tstF, den_negT, den_negF, den_andT, den_andF, lssT, leqT, gtrT, geqT, eqlT, neqT, lssF, leqF, gtrF, geqF, eqlF, neqF, den_app, den_nilL, den_consL, den_add, den_sub, den_mul, den_tdiv, den_tmod, den_mx, den_mn, den_blit, den_bin, binI, env_v, env_f, List.flatten_cons, List.flatten_nil, List.append_nil, List.cons_append, List.nil_append, List.getD_cons_zero, List.getD_cons_succ, List.getD_nil] at hp'
  have B := box_bd h hT (m0 := m0) (m1 := m1) (m2 := m2) (m3 := m3) (m4 := m4) (m5 := m5) (m6 := m6) (m7 := m7) (m8 := m8) (m9 := m9) (r0 := r0) (r1 := r1) (c0 := c0) (c1 := c1) (l0 := l0) (l1 := l1) (f0 := f0) (f1 := f1) (w0 := w0) (w1 := w1) (d := d) (q := q) (s := s) (by omega) (by omega) (by omega) (by omega) (by omega) (by omega) (by omega) (by omega) (by omega) (by omega) (by omega) (by omega) (by omega)
  simp only [boxR, List.mem_cons, List.not_mem_nil, or_false] at hm
  rcases hm with rfl | rfl | rfl | rfl
  · show _ ≤ fn 100 (denL _ (varsE0 23)) ∧ fn 100 (denL _ (varsE0 23)) ≤ _
    rw [denL_vars0 _ fn 23 rfl]; exact B.1
  · show _ ≤ fn 101 (denL _ (varsE0 23)) ∧ fn 101 (denL _ (varsE0 23)) ≤ _
    rw [denL_vars0 _ fn 23 rfl]; exact B.2.1
  · show _ ≤ fn 102 (denL _ (varsE0 23)) ∧ fn 102 (denL _ (varsE0 23)) ≤ _
    rw [denL_vars0 _ fn 23 rfl]; exact B.2.2.1
  · show _ ≤ fn 103 (denL _ (varsE0 23)) ∧ fn 103 (denL _ (varsE0 23)) ≤ _
    rw [denL_vars0 _ fn 23 rfl]; exact B.2.2.2
def Xbox : Par := boxFC.par Xf
theorem Xbox_ok {fn : Nat → List Int → Int} (h : GoodL fn) (hT : TreeIs fn 100 4 boxT) : ParOK Try.prog fn Xbox := FC.parOK (box_ok h hT) rfl (Xf_ok h)
def alF0 : FC := pairFC 52 [sLo, sI, sI, sI] alP formBox 110 []
def alFC : FC := { alF0 with rngs := alR }
theorem al_ok {fn : Nat → List Int → Int} (h : GoodL fn) (hT : TreeIs fn 100 4 boxT) (hA : TreeIs fn 110 4 alT) : alFC.OK Try.prog fn := by
  refine FC.more (c := alF0) (pair_ok (X := Xbox) (d := 0) (n := 100000) alT alT mixD (Xbox_ok h hT) hA (by kernel_rfl) (by kernel_rfl) (by kernel_rfl) (by kernel_rfl) (by kernel_rfl) (by kernel_rfl) (by kernel_rfl)) alR ?_
  intro r hw hp p hm
  obtain ⟨m0, m1, m2, m3, m4, m5, m6, m7, m8, m9, r0, r1, c0, c1, l0, l1, f0, f1, w0, w1, d, q, s, e⟩ := open23 hw
  have hp' : ∀ b, b ∈ alP → b.den (envOf r.flatten fn) = true := hp
  rw [e] at hp' ⊢
  simp only [alP, boxP, bet, List.mem_append, List.mem_cons, List.not_mem_nil, or_false, forall_eq_or_imp, forall_eq, or_imp, forall_and, den_lit, den_var, den_ite, den_cmp, den_cmpB, den_tst, den_tstF, den_negT, den_negF, den_andT, den_andF, lssT, leqT, gtrT, geqT, eqlT, neqT, lssF, leqF, gtrF, geqF, eqlF, neqF, den_app, den_nilL, den_consL, den_add, den_sub, den_mul, den_tdiv, den_tmod, den_mx, den_mn, den_blit, den_bin, binI, env_v, env_f, List.flatten_cons, List.flatten_nil, List.append_nil, List.cons_append, List.nil_append, List.getD_cons_zero, List.getD_cons_succ, List.getD_nil] at hp'
  have B := box_bd h hT (m0 := m0) (m1 := m1) (m2 := m2) (m3 := m3) (m4 := m4) (m5 := m5) (m6 := m6) (m7 := m7) (m8 := m8) (m9 := m9) (r0 := r0) (r1 := r1) (c0 := c0) (c1 := c1) (l0 := l0) (l1 := l1) (f0 := f0) (f1 := f1) (w0 := w0) (w1 := w1) (d := d) (q := q) (s := s) (by omega) (by omega) (by omega) (by omega) (by omega) (by omega) (by omega) (by omega) (by omega) (by omega) (by omega) (by omega) (by omega)
  obtain ⟨a0, a1, a2, a3⟩ := al_val h hA m0 m1 m2 m3 m4 m5 m6 m7 m8 m9 r0 r1 c0 c1 l0 l1 f0 f1 w0 w1 d q s
  have key : ∀ x y : Int, (-2097152 ≤ x ∧ x ≤ 2097153) → (1 ≤ y ∧ y ≤ 4194304) → (-8796097216513 ≤ x * y / m5 ∧ x * y / m5 ≤ 8796097216513) ∧ (-8796097216513 ≤ (x * y - 1) / m5 ∧ (x * y - 1) / m5 ≤ 8796097216513) := by
    intro x y hx hy
    have g := box_mul hx.1 hx.2 hy.1 hy.2
    have k := Int.mul_le_mul_of_nonneg_left (show 1 ≤ m5 by omega) (show (0 : Int) ≤ 8796097216513 by decide)
    generalize x * y = z at *
    exact ⟨fl_in (by omega) (by omega) (by omega), fl_in (by omega) (by omega) (by omega)⟩
  have k1 := key (m8 + d) c0 (by omega) (by omega)
  have k2 := key (m8 - d + 1) c0 (by omega) (by omega)
  have k3 := key (m8 + q) l0 (by omega) (by omega)
  have k4 := key (m8 - q + 1) l0 (by omega) (by omega)
  clear key hp hp' hw e
  generalize (m8 + d) * c0 / m5 = u1 at *
  generalize ((m8 - d + 1) * c0 - 1) / m5 = u2 at *
  generalize (m8 + q) * l0 / m5 = u3 at *
  generalize ((m8 - q + 1) * l0 - 1) / m5 = u4 at *
  simp only [alR, List.mem_cons, List.not_mem_nil, or_false] at hm
  rcases hm with rfl | rfl | rfl | rfl
  · show _ ≤ fn 110 (denL _ (varsE0 23)) ∧ fn 110 (denL _ (varsE0 23)) ≤ _
    rw [denL_vars0 _ fn 23 rfl, a0]; simp only; omega
  · show _ ≤ fn 111 (denL _ (varsE0 23)) ∧ fn 111 (denL _ (varsE0 23)) ≤ _
    rw [denL_vars0 _ fn 23 rfl, a1]; simp only; omega
  · show _ ≤ fn 112 (denL _ (varsE0 23)) ∧ fn 112 (denL _ (varsE0 23)) ≤ _
    rw [denL_vars0 _ fn 23 rfl, a2]; simp only; omega
  · show _ ≤ fn 113 (denL _ (varsE0 23)) ∧ fn 113 (denL _ (varsE0 23)) ≤ _
    rw [denL_vars0 _ fn 23 rfl, a3]; simp only; omega
noncomputable def sfn : Nat → List Int → Int := withTree 110 4 alT (withTree 100 4 boxT (withTree 70 5 stT DR.sfn0))
def GoodS (fn : Nat → List Int → Int) : Prop := SameLow 1000 fn (rowed sfn)
theorem goodS {fn : Nat → List Int → Int} (h : GoodS fn) : GoodI fn ∧ TreeIs fn 70 5 stT ∧ TreeIs fn 100 4 boxT ∧ TreeIs fn 110 4 alT := by
  obtain ⟨a1, g1⟩ := upto_tree (K := 110) (n := 4) (t := alT) h (by decide) (by decide) (by kernel_rfl)
  obtain ⟨a2, g2⟩ := upto_tree (K := 100) (n := 4) (t := boxT) g1 (by decide) (by decide) (by kernel_rfl)
  obtain ⟨a3, g3⟩ := upto_tree (K := 70) (n := 5) (t := stT) g2 (by decide) (by decide) (by kernel_rfl)
  exact ⟨fun k a hk => g3 k a (by unfold low at *; omega), a3, a2, a1⟩
def Xsafe : Par := { (knFC.par (insFC.par (alFC.par ((stFC 13).par Xf)))) with jc := fun f => f == 24 }
theorem Xsafe_ok {fn : Nat → List Int → Int} (h : GoodS fn) : ParOK Try.prog fn Xsafe := by
  obtain ⟨hi, h1, h2, h3⟩ := goodS h
  have := FC.parOK (kn_ok hi.l) rfl (FC.parOK (ins_ok hi) rfl (FC.parOK (al_ok hi.l h2 h3) rfl (FC.parOK (st13_ok hi.l h1) rfl (Xf_ok hi.l))))
  exact ⟨this.book, this.loops, this.rows⟩
end Go.Proofs.Ytkibmcpegafdoaa
