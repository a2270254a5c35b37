/- What the transforms of drive return, and the contracts of both sides: floors, sines, ranges. -/
import Derived.Test.YtmcnbgngojgfcaaDa
import Derived.Test.YtmcnbgngojgfcaaChecked
namespace Go.Proofs.Ytmcnbgngojgfcaa
open Go Go.SX Go.RowKit DR
set_option linter.unusedVariables false
set_option linter.unusedSimpArgs false
set_option maxRecDepth 100000
namespace DR
def isB (x : Int) : Prop := -1073741824 ≤ x ∧ x ≤ 1073741824
def isA (x : Int) : Prop := 0 ≤ x ∧ x ≤ 65535
def isU (x : Int) : Prop := 1 ≤ x ∧ x ≤ 1073741824
instance (x : Int) : Decidable (isB x) := by unfold isB; infer_instance
instance (x : Int) : Decidable (isA x) := by unfold isA; infer_instance
instance (x : Int) : Decidable (isU x) := by unfold isU; infer_instance
def cosI (x : Int) : Int := sineI ((x + 16384).tmod 65536)
def sinV (x : Int) : Int := if isA x then sineI x else 0
def angE (x : Int) : Int := if isA x then 0 else 3
def cosV (x : Int) : Int := if isA x then cosI x else 0
def okT (a b c : Int) : Prop := isB a ∧ isB b ∧ isB c
instance (a b c : Int) : Decidable (okT a b c) := by unfold okT; infer_instance
def twoA (a b c : Int) : Int := if okT a b c then (if a + b + c = 0 then a else 0) else 0
def twoB (a b c : Int) : Int := if okT a b c then (if a + b + c = 0 then ((a + 2 * b) * 37837) / 65536 else 0) else 0
def twoE (a b c : Int) : Int := if okT a b c then (if a + b + c = 0 then 0 else 20) else 3
def okR (a b x : Int) : Prop := isB a ∧ isB b ∧ isA x
instance (a b c : Int) : Decidable (okR a b c) := by unfold okR; infer_instance
def ttD (a b x : Int) : Int := if okR a b x then (a * cosI x + b * sineI x) / 16384 else 0
def ttQ (a b x : Int) : Int := if okR a b x then (b * cosI x - a * sineI x) / 16384 else 0
def ttE (a b x : Int) : Int := if okR a b x then 0 else 3
def tbD (a b x : Int) : Int := if okR a b x then (a * cosI x - b * sineI x) / 16384 else 0
def tbQ (a b x : Int) : Int := if okR a b x then (a * sineI x + b * cosI x) / 16384 else 0
def okP (a b : Int) : Prop := isB a ∧ isB b
instance (a b : Int) : Decidable (okP a b) := by unfold okP; infer_instance
def phA (a b : Int) : Int := if okP a b then a else 0
def phB (a b : Int) : Int := if okP a b then ((b * 113512) / 65536 - a) / 2 else 0
def phC (a b : Int) : Int := if okP a b then (0 - (b * 113512) / 65536 - a) / 2 else 0
def phE (a b : Int) : Int := if okP a b then 0 else 3
def okD (a b c u : Int) : Prop := okT a b c ∧ isU u
instance (a b c u : Int) : Decidable (okD a b c u) := by unfold okD; infer_instance
/-- what lies between the greatest and the least phase -/
def wide (a b c : Int) : Int := max (max a b) c - min (min a b) c
/-- a duty among phases that are not wider than the bus voltage -/
def dut (x a b c u : Int) : Int := br (((2 * x - max (max a b) c - min (min a b) c + u) * 65536) / (2 * u)) 0 65536
def dutV (x a b c u : Int) : Int := if wide a b c > u then dut ((x * u) / wide a b c) ((a * u) / wide a b c) ((b * u) / wide a b c) ((c * u) / wide a b c) u else dut x a b c u
def dutA (a b c u : Int) : Int := if okD a b c u then dutV a a b c u else 0
def dutB (a b c u : Int) : Int := if okD a b c u then dutV b a b c u else 0
def dutC (a b c u : Int) : Int := if okD a b c u then dutV c a b c u else 0
def dutT (a b c u : Int) : Int := if okD a b c u then (if wide a b c > u then 1 else 0) else 0
def dutE (a b c u : Int) : Int := if okD a b c u then 0 else 3
def isQ (x : Int) : Prop := -1099511627776 ≤ x ∧ x ≤ 1099511627776
instance (x : Int) : Decidable (isQ x) := by unfold isQ; infer_instance
/-- gains and span, then sum and error -/
def okG (p j l m : Int) : Prop := ((0 ≤ p ∧ p ≤ 16777216) ∧ (0 ≤ j ∧ j ≤ 16777216)) ∧ (isQ l ∧ isQ m) ∧ l ≤ m
instance (p j l m : Int) : Decidable (okG p j l m) := by unfold okG; infer_instance
def okX (s x : Int) : Prop := isB s ∧ (-2097152 ≤ x ∧ x ≤ 2097152)
instance (s x : Int) : Decidable (okX s x) := by unfold okX; infer_instance
/-- may the sum grow? -/
def growsR (r x l m : Int) : Prop := (l ≤ r ∧ r ≤ m) ∨ (m < r ∧ x < 0) ∨ (r < l ∧ 0 < x)
instance (r x l m : Int) : Decidable (growsR r x l m) := by unfold growsR; infer_instance
def regV (p j s x l m : Int) : Int := if okG p j l m ∧ okX s x then br (p * x / 65536 + s) l m else 0
def regS (p j s x l m : Int) : Int := if okG p j l m ∧ okX s x then (if growsR (p * x / 65536 + s) x l m then br (s + j * x / 65536) (-1073741824) 1073741824 else s) else 0
def regE (p j s x l m : Int) : Int := if okG p j l m then (if okX s x then 0 else 3) else 2
def dfn : Nat → List Int → Int
  | 1, [a, b] => a / b
  | 2, [x] => sineI x
  | 3, [x, l, m] => br x l m
  | 4, [x] => sinV x
  | 5, [x] => angE x
  | 6, [x] => cosV x
  | 7, [a, b, c] => twoA a b c
  | 8, [a, b, c] => twoB a b c
  | 9, [a, b, c] => twoE a b c
  | 10, [a, b, x] => ttD a b x
  | 11, [a, b, x] => ttQ a b x
  | 12, [a, b, x] => ttE a b x
  | 13, [a, b, x] => tbD a b x
  | 14, [a, b, x] => tbQ a b x
  | 15, [a, b] => phA a b
  | 16, [a, b] => phB a b
  | 17, [a, b] => phC a b
  | 18, [a, b] => phE a b
  | 20, [a, b, c, u] => dutA a b c u
  | 21, [a, b, c, u] => dutB a b c u
  | 22, [a, b, c, u] => dutC a b c u
  | 23, [a, b, c, u] => dutT a b c u
  | 24, [a, b, c, u] => dutE a b c u
  | 30, [p, j, s, x, l, m] => regV p j s x l m
  | 31, [p, j, s, x, l, m] => regS p j s x l m
  | 32, [p, j, s, x, l, m] => regE p j s x l m
  | _, _ => 0
def GoodF (fn : Nat → List Int → Int) : Prop := ∀ k a, k < 5000 → fn k a = rowed dfn k a
theorem q1 {fn : Nat → List Int → Int} (h : GoodF fn) (a b : Int) : fn 1 [a, b] = a / b := (h _ _ (by decide)).trans rfl
theorem q2 {fn : Nat → List Int → Int} (h : GoodF fn) (x : Int) : fn 2 [x] = sineI x := (h _ _ (by decide)).trans rfl
theorem q3 {fn : Nat → List Int → Int} (h : GoodF fn) (x l m : Int) : fn 3 [x, l, m] = br x l m := (h _ _ (by decide)).trans rfl
theorem q4 {fn : Nat → List Int → Int} (h : GoodF fn) (x : Int) : fn 4 [x] = sinV x := (h _ _ (by decide)).trans rfl
theorem q5 {fn : Nat → List Int → Int} (h : GoodF fn) (x : Int) : fn 5 [x] = angE x := (h _ _ (by decide)).trans rfl
theorem q6 {fn : Nat → List Int → Int} (h : GoodF fn) (x : Int) : fn 6 [x] = cosV x := (h _ _ (by decide)).trans rfl
theorem q7 {fn : Nat → List Int → Int} (h : GoodF fn) (a b c : Int) : fn 7 [a, b, c] = twoA a b c := (h _ _ (by decide)).trans rfl
theorem q8 {fn : Nat → List Int → Int} (h : GoodF fn) (a b c : Int) : fn 8 [a, b, c] = twoB a b c := (h _ _ (by decide)).trans rfl
theorem q9 {fn : Nat → List Int → Int} (h : GoodF fn) (a b c : Int) : fn 9 [a, b, c] = twoE a b c := (h _ _ (by decide)).trans rfl
theorem q10 {fn : Nat → List Int → Int} (h : GoodF fn) (a b x : Int) : fn 10 [a, b, x] = ttD a b x := (h _ _ (by decide)).trans rfl
theorem q11 {fn : Nat → List Int → Int} (h : GoodF fn) (a b x : Int) : fn 11 [a, b, x] = ttQ a b x := (h _ _ (by decide)).trans rfl
theorem q12 {fn : Nat → List Int → Int} (h : GoodF fn) (a b x : Int) : fn 12 [a, b, x] = ttE a b x := (h _ _ (by decide)).trans rfl
theorem q13 {fn : Nat → List Int → Int} (h : GoodF fn) (a b x : Int) : fn 13 [a, b, x] = tbD a b x := (h _ _ (by decide)).trans rfl
theorem q14 {fn : Nat → List Int → Int} (h : GoodF fn) (a b x : Int) : fn 14 [a, b, x] = tbQ a b x := (h _ _ (by decide)).trans rfl
theorem q15 {fn : Nat → List Int → Int} (h : GoodF fn) (a b : Int) : fn 15 [a, b] = phA a b := (h _ _ (by decide)).trans rfl
theorem q16 {fn : Nat → List Int → Int} (h : GoodF fn) (a b : Int) : fn 16 [a, b] = phB a b := (h _ _ (by decide)).trans rfl
theorem q17 {fn : Nat → List Int → Int} (h : GoodF fn) (a b : Int) : fn 17 [a, b] = phC a b := (h _ _ (by decide)).trans rfl
theorem q18 {fn : Nat → List Int → Int} (h : GoodF fn) (a b : Int) : fn 18 [a, b] = phE a b := (h _ _ (by decide)).trans rfl
theorem q20 {fn : Nat → List Int → Int} (h : GoodF fn) (a b c u : Int) : fn 20 [a, b, c, u] = dutA a b c u := (h _ _ (by decide)).trans rfl
theorem q21 {fn : Nat → List Int → Int} (h : GoodF fn) (a b c u : Int) : fn 21 [a, b, c, u] = dutB a b c u := (h _ _ (by decide)).trans rfl
theorem q22 {fn : Nat → List Int → Int} (h : GoodF fn) (a b c u : Int) : fn 22 [a, b, c, u] = dutC a b c u := (h _ _ (by decide)).trans rfl
theorem q23 {fn : Nat → List Int → Int} (h : GoodF fn) (a b c u : Int) : fn 23 [a, b, c, u] = dutT a b c u := (h _ _ (by decide)).trans rfl
theorem q24 {fn : Nat → List Int → Int} (h : GoodF fn) (a b c u : Int) : fn 24 [a, b, c, u] = dutE a b c u := (h _ _ (by decide)).trans rfl
theorem q30 {fn : Nat → List Int → Int} (h : GoodF fn) (p j s x l m : Int) : fn 30 [p, j, s, x, l, m] = regV p j s x l m := (h _ _ (by decide)).trans rfl
theorem q31 {fn : Nat → List Int → Int} (h : GoodF fn) (p j s x l m : Int) : fn 31 [p, j, s, x, l, m] = regS p j s x l m := (h _ _ (by decide)).trans rfl
theorem q32 {fn : Nat → List Int → Int} (h : GoodF fn) (p j s x l m : Int) : fn 32 [p, j, s, x, l, m] = regE p j s x l m := (h _ _ (by decide)).trans rfl
theorem GoodF.rows {fn : Nat → List Int → Int} (h : GoodF fn) : RowFn fn := fun k a h1 h2 => (h k a h2).trans (rowed_rows _ k a h1 h2)
end DR
theorem mixD : Try.prog.follows .mixedOrders = true := by kernel_rfl
def nilLoops : LBook := fun _ _ => none
theorem nop_ok {fn : Nat → List Int → Int} (h : GoodF fn) : ParOK Try.prog fn noPar := ⟨fun env _ => noBook_ok _ _, (fun env _ f i g h => by cases h), h.rows⟩
def sI : Bool × List (Option IntKind) := (false, [some .i64])
theorem wfI1 {xs : List Int} (h : wfL [some .i64] xs) : ∃ x0, xs = [x0] ∧ (-9223372036854775808 ≤ x0 ∧ x0 ≤ 9223372036854775807) := by
  obtain ⟨x0, _, rfl, g0, e⟩ := h
  rw [show _ = ([] : List Int) from e]
  exact ⟨x0, rfl, wf_rng (g0 _ rfl)⟩
theorem wfI2 {xs : List Int} (h : wfL [some .i64, some .i64] xs) : ∃ x0 x1, xs = [x0, x1] ∧ (-9223372036854775808 ≤ x0 ∧ x0 ≤ 9223372036854775807) ∧ (-9223372036854775808 ≤ x1 ∧ x1 ≤ 9223372036854775807) := by
  obtain ⟨x0, _, rfl, g0, x1, _, rfl, g1, e⟩ := h
  rw [show _ = ([] : List Int) from e]
  exact ⟨x0, x1, rfl, wf_rng (g0 _ rfl), wf_rng (g1 _ rfl)⟩
theorem wfI3 {xs : List Int} (h : wfL [some .i64, some .i64, some .i64] xs) : ∃ x0 x1 x2, xs = [x0, x1, x2] ∧ (-9223372036854775808 ≤ x0 ∧ x0 ≤ 9223372036854775807) ∧ (-9223372036854775808 ≤ x1 ∧ x1 ≤ 9223372036854775807) ∧ (-9223372036854775808 ≤ x2 ∧ x2 ≤ 9223372036854775807) := by
  obtain ⟨x0, _, rfl, g0, x1, _, rfl, g1, x2, _, rfl, g2, e⟩ := h
  rw [show _ = ([] : List Int) from e]
  exact ⟨x0, x1, x2, rfl, wf_rng (g0 _ rfl), wf_rng (g1 _ rfl), wf_rng (g2 _ rfl)⟩
def flV : E := .app 1 [.var 0, .var 1]
def flFC (f : Nat) : FC := ⟨f, [sI, sI], .int .i64 flV, [.cmp .geq (.var 1) (.lit 1)], [.cmp .leq flV (.op .tdiv (.var 0) (.var 1)), .cmp .leq (.op .sub (.op .tdiv (.var 0) (.var 1)) (.lit 1)) flV], [(flV, -9223372036854775808, 9223372036854775807)]⟩
def siV : E := .app 2 [.var 0]
def siP : List BE := [.cmp .geq (.var 0) (.lit 0), .cmp .leq (.var 0) (.lit 65535)]
def siFC (f : Nat) : FC := ⟨f, [sI], .int .i64 siV, siP, [], [(siV, -16384, 16384)]⟩
def brV : E := .app 3 [.var 0, .var 1, .var 2]
def brFC (f : Nat) : FC := ⟨f, [sI, sI, sI], .int .i64 brV, [.cmp .leq (.var 1) (.var 2)], [.cmp .leq (.var 1) brV, .cmp .leq brV (.var 2)], [(brV, -9223372036854775808, 9223372036854775807)]⟩
def fl38T : VT := (.ite (.cmp .lss (.op .tmod (.var 0) (.var 1)) (.lit 0)) (.leaf (.int .i64 (.bin .sub .i64 (.bin .quo .i64 (.var 0) (.var 1)) (.lit 1)))) (.leaf (.int .i64 (.bin .quo .i64 (.var 0) (.var 1)))))
theorem fl38_ok {fn : Nat → List Int → Int} (h : GoodF fn) : (flFC 38).OK Try.prog fn := by
  refine FC.ok_num (X := noPar) (d := 1) (n := 100000) (t := fl38T) mixD (nop_ok h) rfl (by kernel_rfl) (by kernel_rfl) fun r hw hpre => ?_
  obtain ⟨xs0, r0, rfl, w0, _, hw0⟩ := hw
  obtain ⟨xs1, r1, rfl, w1, _, hw1⟩ := hw0
  obtain rfl : r1 = [] := hw1
  obtain ⟨a, rfl, ha⟩ := wfI1 w0
  obtain ⟨b, rfl, hb⟩ := wfI1 w1
  have hb := hpre _ (List.mem_singleton.2 rfl)
  simp only [den_lit, den_var, den_ite, den_cmp, den_cmpB, den_tst, den_tstF, den_negT, den_negF, den_andT, den_andF, lssT, leqT, gtrT, geqT, eqlT, neqT, lssF, leqF, gtrF, geqF, eqlF, neqF, den_app, den_nilL, den_consL, den_add, den_sub, den_mul, den_tdiv, den_tmod, den_mx, den_mn, den_blit, den_bin, binI, env_v, env_f, List.flatten_cons, List.flatten_nil, List.append_nil, List.cons_append, List.nil_append, List.getD_cons_zero, List.getD_cons_succ, List.getD_nil] at hb
  have e1 := go_fl (n := a) hb
  have e2 := fl_tdiv (n := a) hb
  have e3 := fl_bd (n := a) hb ha.1 ha.2
  refine ⟨?_, ?_, ?_⟩
  · intro be hm
    simp only [flFC, List.mem_cons, List.not_mem_nil, or_false] at hm
    rcases hm with rfl | rfl <;> simp only [flV, den_lit, den_var, den_ite, den_cmp, den_cmpB, den_tst, den_tstF, den_negT, den_negF, den_andT, den_andF, lssT, leqT, gtrT, geqT, eqlT, neqT, lssF, leqF, gtrF, geqF, eqlF, neqF, den_app, den_nilL, den_consL, den_add, den_sub, den_mul, den_tdiv, den_tmod, den_mx, den_mn, den_blit, den_bin, binI, env_v, env_f, List.flatten_cons, List.flatten_nil, List.append_nil, List.cons_append, List.nil_append, List.getD_cons_zero, List.getD_cons_succ, List.getD_nil, q1 h] <;> omega
  · intro p hm
    simp only [flFC, List.mem_singleton] at hm
    subst hm
    simp only [flV, den_lit, den_var, den_ite, den_cmp, den_cmpB, den_tst, den_tstF, den_negT, den_negF, den_andT, den_andF, lssT, leqT, gtrT, geqT, eqlT, neqT, lssF, leqF, gtrF, geqF, eqlF, neqF, den_app, den_nilL, den_consL, den_add, den_sub, den_mul, den_tdiv, den_tmod, den_mx, den_mn, den_blit, den_bin, binI, env_v, env_f, List.flatten_cons, List.flatten_nil, List.append_nil, List.cons_append, List.nil_append, List.getD_cons_zero, List.getD_cons_succ, List.getD_nil, q1 h]
    exact e3
  · simp only [fl38T, flFC, flV, VT.holds, SV.eqv, den_lit, den_var, den_ite, den_cmp, den_cmpB, den_tst, den_tstF, den_negT, den_negF, den_andT, den_andF, lssT, leqT, gtrT, geqT, eqlT, neqT, lssF, leqF, gtrF, geqF, eqlF, neqF, den_app, den_nilL, den_consL, den_add, den_sub, den_mul, den_tdiv, den_tmod, den_mx, den_mn, den_blit, den_bin, binI, env_v, env_f, List.flatten_cons, List.flatten_nil, List.append_nil, List.cons_append, List.nil_append, List.getD_cons_zero, List.getD_cons_succ, List.getD_nil, q1 h, true_and]
    have e5 : a.tdiv b ≤ 9223372036854775807 := by
      by_cases h0 : 0 ≤ a
      · rw [Int.tdiv_eq_ediv_of_nonneg h0]; exact e3.2
      · have := Int.tdiv_nonneg (a := -a) (b := b) (by omega) (by omega)
        rw [Int.neg_tdiv] at this
        omega
    have e4 : -9223372036854775808 ≤ a.tdiv b ∧ a.tdiv b ≤ 9223372036854775807 := ⟨by omega, e5⟩
    rw [wrap_i64 e4.1 e4.2]
    refine ⟨fun ht => ?_, fun ht => ?_⟩
    · rw [if_pos (by omega)] at e1
      rw [wrap_i64 (by omega) (by omega)]; exact e1
    · rw [if_neg (by omega)] at e1
      exact e1
def fl40T : VT := (.ite (.cmp .lss (.op .tmod (.var 0) (.var 1)) (.lit 0)) (.leaf (.int .i64 (.bin .sub .i64 (.bin .quo .i64 (.var 0) (.var 1)) (.lit 1)))) (.leaf (.int .i64 (.bin .quo .i64 (.var 0) (.var 1)))))
theorem fl40_ok {fn : Nat → List Int → Int} (h : GoodF fn) : (flFC 40).OK Try.prog fn := by
  refine FC.ok_num (X := noPar) (d := 1) (n := 100000) (t := fl40T) mixD (nop_ok h) rfl (by kernel_rfl) (by kernel_rfl) fun r hw hpre => ?_
  obtain ⟨xs0, r0, rfl, w0, _, hw0⟩ := hw
  obtain ⟨xs1, r1, rfl, w1, _, hw1⟩ := hw0
  obtain rfl : r1 = [] := hw1
  obtain ⟨a, rfl, ha⟩ := wfI1 w0
  obtain ⟨b, rfl, hb⟩ := wfI1 w1
  have hb := hpre _ (List.mem_singleton.2 rfl)
  simp only [den_lit, den_var, den_ite, den_cmp, den_cmpB, den_tst, den_tstF, den_negT, den_negF, den_andT, den_andF, lssT, leqT, gtrT, geqT, eqlT, neqT, lssF, leqF, gtrF, geqF, eqlF, neqF, den_app, den_nilL, den_consL, den_add, den_sub, den_mul, den_tdiv, den_tmod, den_mx, den_mn, den_blit, den_bin, binI, env_v, env_f, List.flatten_cons, List.flatten_nil, List.append_nil, List.cons_append, List.nil_append, List.getD_cons_zero, List.getD_cons_succ, List.getD_nil] at hb
  have e1 := go_fl (n := a) hb
  have e2 := fl_tdiv (n := a) hb
  have e3 := fl_bd (n := a) hb ha.1 ha.2
  refine ⟨?_, ?_, ?_⟩
  · intro be hm
    simp only [flFC, List.mem_cons, List.not_mem_nil, or_false] at hm
    rcases hm with rfl | rfl <;> simp only [flV, den_lit, den_var, den_ite, den_cmp, den_cmpB, den_tst, den_tstF, den_negT, den_negF, den_andT, den_andF, lssT, leqT, gtrT, geqT, eqlT, neqT, lssF, leqF, gtrF, geqF, eqlF, neqF, den_app, den_nilL, den_consL, den_add, den_sub, den_mul, den_tdiv, den_tmod, den_mx, den_mn, den_blit, den_bin, binI, env_v, env_f, List.flatten_cons, List.flatten_nil, List.append_nil, List.cons_append, List.nil_append, List.getD_cons_zero, List.getD_cons_succ, List.getD_nil, q1 h] <;> omega
  · intro p hm
    simp only [flFC, List.mem_singleton] at hm
    subst hm
    simp only [flV, den_lit, den_var, den_ite, den_cmp, den_cmpB, den_tst, den_tstF, den_negT, den_negF, den_andT, den_andF, lssT, leqT, gtrT, geqT, eqlT, neqT, lssF, leqF, gtrF, geqF, eqlF, neqF, den_app, den_nilL, den_consL, den_add, den_sub, den_mul, den_tdiv, den_tmod, den_mx, den_mn, den_blit, den_bin, binI, env_v, env_f, List.flatten_cons, List.flatten_nil, List.append_nil, List.cons_append, List.nil_append, List.getD_cons_zero, List.getD_cons_succ, List.getD_nil, q1 h]
    exact e3
  · simp only [fl40T, flFC, flV, VT.holds, SV.eqv, den_lit, den_var, den_ite, den_cmp, den_cmpB, den_tst, den_tstF, den_negT, den_negF, den_andT, den_andF, lssT, leqT, gtrT, geqT, eqlT, neqT, lssF, leqF, gtrF, geqF, eqlF, neqF, den_app, den_nilL, den_consL, den_add, den_sub, den_mul, den_tdiv, den_tmod, den_mx, den_mn, den_blit, den_bin, binI, env_v, env_f, List.flatten_cons, List.flatten_nil, List.append_nil, List.cons_append, List.nil_append, List.getD_cons_zero, List.getD_cons_succ, List.getD_nil, q1 h, true_and]
    have e5 : a.tdiv b ≤ 9223372036854775807 := by
      by_cases h0 : 0 ≤ a
      · rw [Int.tdiv_eq_ediv_of_nonneg h0]; exact e3.2
      · have := Int.tdiv_nonneg (a := -a) (b := b) (by omega) (by omega)
        rw [Int.neg_tdiv] at this
        omega
    have e4 : -9223372036854775808 ≤ a.tdiv b ∧ a.tdiv b ≤ 9223372036854775807 := ⟨by omega, e5⟩
    rw [wrap_i64 e4.1 e4.2]
    refine ⟨fun ht => ?_, fun ht => ?_⟩
    · rw [if_pos (by omega)] at e1
      rw [wrap_i64 (by omega) (by omega)]; exact e1
    · rw [if_neg (by omega)] at e1
      exact e1
def Xf : Par := (flFC 38).par ((flFC 40).par noPar)
theorem Xf_ok {fn : Nat → List Int → Int} (h : GoodF fn) : ParOK Try.prog fn Xf := FC.parOK (fl38_ok h) rfl (FC.parOK (fl40_ok h) rfl (nop_ok h))
def si32T : VT := (.ite (.cmp .geq (.var 0) (.lit 32768)) (.leaf (.int .i64 (.op .sub (.lit 0) (.app 1 [(.op .mul (.lit 262144) (.op .mul (.op .sub (.var 0) (.lit 32768)) (.op .sub (.lit 32768) (.op .sub (.var 0) (.lit 32768))))), (.op .sub (.lit 5368709120) (.op .mul (.lit 4) (.op .mul (.op .sub (.var 0) (.lit 32768)) (.op .sub (.lit 32768) (.op .sub (.var 0) (.lit 32768))))))])))) (.leaf (.int .i64 (.app 1 [(.op .mul (.lit 262144) (.op .mul (.var 0) (.op .sub (.lit 32768) (.var 0)))), (.op .sub (.lit 5368709120) (.op .mul (.lit 4) (.op .mul (.var 0) (.op .sub (.lit 32768) (.var 0)))))]))))
theorem si32_ok {fn : Nat → List Int → Int} (h : GoodF fn) : (siFC 32).OK Try.prog fn := by
  refine FC.ok_num (X := Xf) (d := 1) (n := 100000) (t := si32T) mixD (Xf_ok h) rfl (by kernel_rfl) (by kernel_rfl) fun r hw hpre => ?_
  obtain ⟨xs0, r0, rfl, w0, _, hw0⟩ := hw
  obtain rfl : r0 = [] := hw0
  obtain ⟨x, rfl, hx⟩ := wfI1 w0
  have h1 := hpre _ (List.mem_cons_self ..)
  have h2 := hpre _ (List.mem_cons_of_mem _ (List.mem_singleton.2 rfl))
  simp only [den_lit, den_var, den_ite, den_cmp, den_cmpB, den_tst, den_tstF, den_negT, den_negF, den_andT, den_andF, lssT, leqT, gtrT, geqT, eqlT, neqT, lssF, leqF, gtrF, geqF, eqlF, neqF, den_app, den_nilL, den_consL, den_add, den_sub, den_mul, den_tdiv, den_tmod, den_mx, den_mn, den_blit, den_bin, binI, env_v, env_f, List.flatten_cons, List.flatten_nil, List.append_nil, List.cons_append, List.nil_append, List.getD_cons_zero, List.getD_cons_succ, List.getD_nil] at h1 h2
  refine ⟨by simp [siFC], ?_, ?_⟩
  · intro p hm
    simp only [siFC, List.mem_singleton] at hm
    subst hm
    simp only [siV, den_lit, den_var, den_ite, den_cmp, den_cmpB, den_tst, den_tstF, den_negT, den_negF, den_andT, den_andF, lssT, leqT, gtrT, geqT, eqlT, neqT, lssF, leqF, gtrF, geqF, eqlF, neqF, den_app, den_nilL, den_consL, den_add, den_sub, den_mul, den_tdiv, den_tmod, den_mx, den_mn, den_blit, den_bin, binI, env_v, env_f, List.flatten_cons, List.flatten_nil, List.append_nil, List.cons_append, List.nil_append, List.getD_cons_zero, List.getD_cons_succ, List.getD_nil, q2 h]
    exact sineI_bd h1 h2
  · simp only [si32T, siFC, siV, VT.holds, SV.eqv, den_lit, den_var, den_ite, den_cmp, den_cmpB, den_tst, den_tstF, den_negT, den_negF, den_andT, den_andF, lssT, leqT, gtrT, geqT, eqlT, neqT, lssF, leqF, gtrF, geqF, eqlF, neqF, den_app, den_nilL, den_consL, den_add, den_sub, den_mul, den_tdiv, den_tmod, den_mx, den_mn, den_blit, den_bin, binI, env_v, env_f, List.flatten_cons, List.flatten_nil, List.append_nil, List.cons_append, List.nil_append, List.getD_cons_zero, List.getD_cons_succ, List.getD_nil, q1 h, q2 h, true_and]
    refine ⟨fun ht => ?_, fun ht => ?_⟩
    · unfold sineI; rw [if_pos ht]; unfold sinH; omega
    · unfold sineI; rw [if_neg (by omega)]; rfl
def si35T : VT := (.ite (.cmp .geq (.var 0) (.lit 32768)) (.leaf (.int .i64 (.op .sub (.lit 0) (.app 1 [(.op .mul (.lit 262144) (.op .mul (.op .sub (.var 0) (.lit 32768)) (.op .sub (.lit 32768) (.op .sub (.var 0) (.lit 32768))))), (.op .sub (.lit 5368709120) (.op .mul (.lit 4) (.op .mul (.op .sub (.var 0) (.lit 32768)) (.op .sub (.lit 32768) (.op .sub (.var 0) (.lit 32768))))))])))) (.leaf (.int .i64 (.app 1 [(.op .mul (.lit 262144) (.op .mul (.var 0) (.op .sub (.lit 32768) (.var 0)))), (.op .sub (.lit 5368709120) (.op .mul (.lit 4) (.op .mul (.var 0) (.op .sub (.lit 32768) (.var 0)))))]))))
theorem si35_ok {fn : Nat → List Int → Int} (h : GoodF fn) : (siFC 35).OK Try.prog fn := by
  refine FC.ok_num (X := Xf) (d := 1) (n := 100000) (t := si35T) mixD (Xf_ok h) rfl (by kernel_rfl) (by kernel_rfl) fun r hw hpre => ?_
  obtain ⟨xs0, r0, rfl, w0, _, hw0⟩ := hw
  obtain rfl : r0 = [] := hw0
  obtain ⟨x, rfl, hx⟩ := wfI1 w0
  have h1 := hpre _ (List.mem_cons_self ..)
  have h2 := hpre _ (List.mem_cons_of_mem _ (List.mem_singleton.2 rfl))
  simp only [den_lit, den_var, den_ite, den_cmp, den_cmpB, den_tst, den_tstF, den_negT, den_negF, den_andT, den_andF, lssT, leqT, gtrT, geqT, eqlT, neqT, lssF, leqF, gtrF, geqF, eqlF, neqF, den_app, den_nilL, den_consL, den_add, den_sub, den_mul, den_tdiv, den_tmod, den_mx, den_mn, den_blit, den_bin, binI, env_v, env_f, List.flatten_cons, List.flatten_nil, List.append_nil, List.cons_append, List.nil_append, List.getD_cons_zero, List.getD_cons_succ, List.getD_nil] at h1 h2
  refine ⟨by simp [siFC], ?_, ?_⟩
  · intro p hm
    simp only [siFC, List.mem_singleton] at hm
    subst hm
    simp only [siV, den_lit, den_var, den_ite, den_cmp, den_cmpB, den_tst, den_tstF, den_negT, den_negF, den_andT, den_andF, lssT, leqT, gtrT, geqT, eqlT, neqT, lssF, leqF, gtrF, geqF, eqlF, neqF, den_app, den_nilL, den_consL, den_add, den_sub, den_mul, den_tdiv, den_tmod, den_mx, den_mn, den_blit, den_bin, binI, env_v, env_f, List.flatten_cons, List.flatten_nil, List.append_nil, List.cons_append, List.nil_append, List.getD_cons_zero, List.getD_cons_succ, List.getD_nil, q2 h]
    exact sineI_bd h1 h2
  · simp only [si35T, siFC, siV, VT.holds, SV.eqv, den_lit, den_var, den_ite, den_cmp, den_cmpB, den_tst, den_tstF, den_negT, den_negF, den_andT, den_andF, lssT, leqT, gtrT, geqT, eqlT, neqT, lssF, leqF, gtrF, geqF, eqlF, neqF, den_app, den_nilL, den_consL, den_add, den_sub, den_mul, den_tdiv, den_tmod, den_mx, den_mn, den_blit, den_bin, binI, env_v, env_f, List.flatten_cons, List.flatten_nil, List.append_nil, List.cons_append, List.nil_append, List.getD_cons_zero, List.getD_cons_succ, List.getD_nil, q1 h, q2 h, true_and]
    refine ⟨fun ht => ?_, fun ht => ?_⟩
    · unfold sineI; rw [if_pos ht]; unfold sinH; omega
    · unfold sineI; rw [if_neg (by omega)]; rfl
def br43T : VT := (.leaf (.int .i64 (.op .mn (.op .mx (.var 0) (.var 1)) (.var 2))))
theorem br43_ok {fn : Nat → List Int → Int} (h : GoodF fn) : (brFC 43).OK Try.prog fn := by
  refine FC.ok_num (X := noPar) (d := 1) (n := 100000) (t := br43T) mixD (nop_ok h) rfl (by kernel_rfl) (by kernel_rfl) fun r hw hpre => ?_
  obtain ⟨xs0, r0, rfl, w0, _, hw0⟩ := hw
  obtain ⟨xs1, r1, rfl, w1, _, hw1⟩ := hw0
  obtain ⟨xs2, r2, rfl, w2, _, hw2⟩ := hw1
  obtain rfl : r2 = [] := hw2
  obtain ⟨x, rfl, hx⟩ := wfI1 w0
  obtain ⟨l, rfl, hl⟩ := wfI1 w1
  obtain ⟨m, rfl, hm⟩ := wfI1 w2
  have h1 := hpre _ (List.mem_singleton.2 rfl)
  simp only [den_lit, den_var, den_ite, den_cmp, den_cmpB, den_tst, den_tstF, den_negT, den_negF, den_andT, den_andF, lssT, leqT, gtrT, geqT, eqlT, neqT, lssF, leqF, gtrF, geqF, eqlF, neqF, den_app, den_nilL, den_consL, den_add, den_sub, den_mul, den_tdiv, den_tmod, den_mx, den_mn, den_blit, den_bin, binI, env_v, env_f, List.flatten_cons, List.flatten_nil, List.append_nil, List.cons_append, List.nil_append, List.getD_cons_zero, List.getD_cons_succ, List.getD_nil] at h1
  refine ⟨?_, ?_, ?_⟩
  · intro be hm
    simp only [brFC, List.mem_cons, List.not_mem_nil, or_false] at hm
    rcases hm with rfl | rfl <;> simp only [brV, den_lit, den_var, den_ite, den_cmp, den_cmpB, den_tst, den_tstF, den_negT, den_negF, den_andT, den_andF, lssT, leqT, gtrT, geqT, eqlT, neqT, lssF, leqF, gtrF, geqF, eqlF, neqF, den_app, den_nilL, den_consL, den_add, den_sub, den_mul, den_tdiv, den_tmod, den_mx, den_mn, den_blit, den_bin, binI, env_v, env_f, List.flatten_cons, List.flatten_nil, List.append_nil, List.cons_append, List.nil_append, List.getD_cons_zero, List.getD_cons_succ, List.getD_nil, q3 h, br] <;> omega
  · intro p hm
    simp only [brFC, List.mem_singleton] at hm
    subst hm
    simp only [brV, den_lit, den_var, den_ite, den_cmp, den_cmpB, den_tst, den_tstF, den_negT, den_negF, den_andT, den_andF, lssT, leqT, gtrT, geqT, eqlT, neqT, lssF, leqF, gtrF, geqF, eqlF, neqF, den_app, den_nilL, den_consL, den_add, den_sub, den_mul, den_tdiv, den_tmod, den_mx, den_mn, den_blit, den_bin, binI, env_v, env_f, List.flatten_cons, List.flatten_nil, List.append_nil, List.cons_append, List.nil_append, List.getD_cons_zero, List.getD_cons_succ, List.getD_nil, q3 h, br]
    omega
  · simp only [br43T, brFC, brV, VT.holds, SV.eqv, den_lit, den_var, den_ite, den_cmp, den_cmpB, den_tst, den_tstF, den_negT, den_negF, den_andT, den_andF, lssT, leqT, gtrT, geqT, eqlT, neqT, lssF, leqF, gtrF, geqF, eqlF, neqF, den_app, den_nilL, den_consL, den_add, den_sub, den_mul, den_tdiv, den_tmod, den_mx, den_mn, den_blit, den_bin, binI, env_v, env_f, List.flatten_cons, List.flatten_nil, List.append_nil, List.cons_append, List.nil_append, List.getD_cons_zero, List.getD_cons_succ, List.getD_nil, q3 h, br, true_and]
    try omega
def br45T : VT := (.leaf (.int .i64 (.op .mx (.var 1) (.op .mn (.var 0) (.var 2)))))
theorem br45_ok {fn : Nat → List Int → Int} (h : GoodF fn) : (brFC 45).OK Try.prog fn := by
  refine FC.ok_num (X := noPar) (d := 1) (n := 100000) (t := br45T) mixD (nop_ok h) rfl (by kernel_rfl) (by kernel_rfl) fun r hw hpre => ?_
  obtain ⟨xs0, r0, rfl, w0, _, hw0⟩ := hw
  obtain ⟨xs1, r1, rfl, w1, _, hw1⟩ := hw0
  obtain ⟨xs2, r2, rfl, w2, _, hw2⟩ := hw1
  obtain rfl : r2 = [] := hw2
  obtain ⟨x, rfl, hx⟩ := wfI1 w0
  obtain ⟨l, rfl, hl⟩ := wfI1 w1
  obtain ⟨m, rfl, hm⟩ := wfI1 w2
  have h1 := hpre _ (List.mem_singleton.2 rfl)
  simp only [den_lit, den_var, den_ite, den_cmp, den_cmpB, den_tst, den_tstF, den_negT, den_negF, den_andT, den_andF, lssT, leqT, gtrT, geqT, eqlT, neqT, lssF, leqF, gtrF, geqF, eqlF, neqF, den_app, den_nilL, den_consL, den_add, den_sub, den_mul, den_tdiv, den_tmod, den_mx, den_mn, den_blit, den_bin, binI, env_v, env_f, List.flatten_cons, List.flatten_nil, List.append_nil, List.cons_append, List.nil_append, List.getD_cons_zero, List.getD_cons_succ, List.getD_nil] at h1
  refine ⟨?_, ?_, ?_⟩
  · intro be hm
    simp only [brFC, List.mem_cons, List.not_mem_nil, or_false] at hm
    rcases hm with rfl | rfl <;> simp only [brV, den_lit, den_var, den_ite, den_cmp, den_cmpB, den_tst, den_tstF, den_negT, den_negF, den_andT, den_andF, lssT, leqT, gtrT, geqT, eqlT, neqT, lssF, leqF, gtrF, geqF, eqlF, neqF, den_app, den_nilL, den_consL, den_add, den_sub, den_mul, den_tdiv, den_tmod, den_mx, den_mn, den_blit, den_bin, binI, env_v, env_f, List.flatten_cons, List.flatten_nil, List.append_nil, List.cons_append, List.nil_append, List.getD_cons_zero, List.getD_cons_succ, List.getD_nil, q3 h, br] <;> omega
  · intro p hm
    simp only [brFC, List.mem_singleton] at hm
    subst hm
    simp only [brV, den_lit, den_var, den_ite, den_cmp, den_cmpB, den_tst, den_tstF, den_negT, den_negF, den_andT, den_andF, lssT, leqT, gtrT, geqT, eqlT, neqT, lssF, leqF, gtrF, geqF, eqlF, neqF, den_app, den_nilL, den_consL, den_add, den_sub, den_mul, den_tdiv, den_tmod, den_mx, den_mn, den_blit, den_bin, binI, env_v, env_f, List.flatten_cons, List.flatten_nil, List.append_nil, List.cons_append, List.nil_append, List.getD_cons_zero, List.getD_cons_succ, List.getD_nil, q3 h, br]
    omega
  · simp only [br45T, brFC, brV, VT.holds, SV.eqv, den_lit, den_var, den_ite, den_cmp, den_cmpB, den_tst, den_tstF, den_negT, den_negF, den_andT, den_andF, lssT, leqT, gtrT, geqT, eqlT, neqT, lssF, leqF, gtrF, geqF, eqlF, neqF, den_app, den_nilL, den_consL, den_add, den_sub, den_mul, den_tdiv, den_tmod, den_mx, den_mn, den_blit, den_bin, binI, env_v, env_f, List.flatten_cons, List.flatten_nil, List.append_nil, List.cons_append, List.nil_append, List.getD_cons_zero, List.getD_cons_succ, List.getD_nil, q3 h, br, true_and]
    try omega
def Xb : Par := (flFC 38).par ((flFC 40).par ((siFC 32).par ((siFC 35).par ((brFC 43).par ((brFC 45).par noPar)))))
theorem Xb_ok {fn : Nat → List Int → Int} (h : GoodF fn) : ParOK Try.prog fn Xb := FC.parOK (fl38_ok h) rfl (FC.parOK (fl40_ok h) rfl (FC.parOK (si32_ok h) rfl (FC.parOK (si35_ok h) rfl (FC.parOK (br43_ok h) rfl (FC.parOK (br45_ok h) rfl (nop_ok h))))))
end Go.Proofs.Ytmcnbgngojgfcaa
