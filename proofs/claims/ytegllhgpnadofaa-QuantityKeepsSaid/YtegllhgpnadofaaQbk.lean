/- Floors and ceilings of products for the reckoner: a book of the two roundings. -/
import Derived.Test.YtegllhgpnadofaaSx17
import Derived.Test.YtegllhgpnadofaaRnd
namespace Go.Proofs.Ytegllhgpnadofaa
open Go.SX Go.RowKit
set_option linter.unusedVariables false
set_option linter.unusedSimpArgs false

/-- what the names 1 and 2 of functions stand for -/
def qfn : Nat → List Int → Int
  | 1, [a, b, d] => QM.vF a b d
  | 2, [a, b, d] => QM.vC a b d
  | _, _ => 0

def qrng (cx : Ctx) (a b : E) : Int × Int :=
  match bnd cx a, bnd cx b with
  | some x, some y =>
    let l := min (min (x.1 * y.1) (x.1 * y.2)) (min (x.2 * y.1) (x.2 * y.2))
    let h := max (max (x.1 * y.1) (x.1 * y.2)) (max (x.2 * y.1) (x.2 * y.2))
    if -1000000000000 ≤ l ∧ h ≤ 1000000000000 then (min l 0, max h 0) else (-4611686018427387905, 4611686018427387905)
  | _, _ => (-4611686018427387905, 4611686018427387905)

def qneeds (a b d : E) : List BE :=
  [.cmp .geq a (.lit (-9000000000000)), .cmp .leq a (.lit 9000000000000), .cmp .geq b (.lit (-9000000000000)), .cmp .leq b (.lit 9000000000000), .cmp .geq d (.lit 1), .cmp .leq d (.lit 9000000000000)]

def qval (s : Nat) (cx : Ctx) (a b d : E) : Summ :=
  match a, b, d with
  | .lit x, .lit y, .lit z => ⟨qneeds (.lit x) (.lit y) (.lit z), .int .i64 (.lit (qfn s [x, y, z])), [], [], []⟩
  | a, b, d => ⟨qneeds a b d, .int .i64 (.app s [a, b, d]), [], [(.app s [a, b, d], qrng cx a b)], []⟩

def qbook (F C : Nat) : Book := fun f args cx =>
  match args with
  | [.agg [.int .i64 a, .int .i64 b, .int .i64 d]] => if Nat.beq f F then some (qval 1 cx a b d) else if Nat.beq f C then some (qval 2 cx a b d) else none
  | _ => none

theorem fl_bd {p d L H : Int} (hd : 1 ≤ d) (h1 : L ≤ p) (h2 : p ≤ H) : min L 0 ≤ p / d ∧ p / d ≤ max H 0 := by
  constructor
  · rw [Int.le_ediv_iff_mul_le (by omega)]
    by_cases h : 0 ≤ L
    · rw [Int.min_eq_right h]; omega
    · rw [Int.min_eq_left (by omega)]
      have := Int.mul_le_mul_of_nonpos_left (show L ≤ 0 by omega) hd
      omega
  · have e1 : p / d ≤ max H 0 / d := Int.ediv_le_ediv (by omega) (by omega)
    have e2 : max H 0 / d ≤ max H 0 := Int.ediv_le_self _ (by omega)
    omega

theorem vF_fl {a b d : Int} (hd : 1 ≤ d) (h1 : -1000000000000 ≤ a * b) (h2 : a * b ≤ 1000000000000) : QM.vF a b d = a * b / d := by
  have h := fl_bd hd h1 h2
  have hc := QM.vF_cl (a := a) (b := b) (d := d) (by omega)
  simp only [QM.Cl, QM.fl] at hc
  generalize a * b / d = q at *
  omega
theorem vC_ce {a b d : Int} (hd : 1 ≤ d) (h1 : -1000000000000 ≤ a * b) (h2 : a * b ≤ 1000000000000) : QM.vC a b d = -((-(a * b)) / d) := by
  have h := fl_bd (p := -(a * b)) hd (show -1000000000000 ≤ -(a * b) by omega) (show -(a * b) ≤ 1000000000000 by omega)
  have hc := QM.vC_cl (a := a) (b := b) (d := d) (by omega)
  simp only [QM.Cl, QM.ce] at hc
  generalize -(a * b) / d = q at *
  omega

theorem vC_bd (a b d : Int) : -4611686018427387905 ≤ QM.vC a b d ∧ QM.vC a b d ≤ 4611686018427387905 := by
  have := QM.sW_bd a b d
  unfold QM.vC
  split <;> omega

theorem qrng_ok {env : Env} {cx : Ctx} (hc : cx.ok env) {a b : E} {d : Int} (hd : 1 ≤ d) :
    ((qrng cx a b).1 ≤ QM.vF (a.den env) (b.den env) d ∧ QM.vF (a.den env) (b.den env) d ≤ (qrng cx a b).2) ∧
    ((qrng cx a b).1 ≤ QM.vC (a.den env) (b.den env) d ∧ QM.vC (a.den env) (b.den env) d ≤ (qrng cx a b).2) := by
  have f1 := QM.sW_bd (a.den env) (b.den env) d
  have c1 := vC_bd (a.den env) (b.den env) d
  unfold qrng
  split
  · rename_i x y hx hy
    have h1 := bnd_ok hc _ _ hx
    have h2 := bnd_ok hc _ _ hy
    have h3 := box_mul h1.1 h1.2 h2.1 h2.2
    dsimp only
    split
    · rename_i h4
      rw [vF_fl hd (by omega) (by omega), vC_ce hd (by omega) (by omega)]
      have h5 := fl_bd hd h3.1 h3.2
      have h6 := fl_bd (p := -(a.den env * b.den env)) hd (Int.neg_le_neg h3.2) (Int.neg_le_neg h3.1)
      refine ⟨h5, ?_⟩
      simp only
      generalize a.den env * b.den env = p at *
      generalize -p / d = q at *
      omega
    · exact ⟨⟨f1.1, by have := f1.2; simp only [QM.vF]; omega⟩, c1⟩
  · exact ⟨⟨f1.1, by have := f1.2; simp only [QM.vF]; omega⟩, c1⟩

theorem qval_ok {env : Env} (hf : env.f = qfn) {cx : Ctx} (hc : cx.ok env) (s f : Nat) (hs : s = 1 ∨ s = 2) (a b d : E)
    (hcall : ∀ (x y z : Int) (w : World), -9000000000000 ≤ x → x ≤ 9000000000000 → -9000000000000 ≤ y → y ≤ 9000000000000 → 1 ≤ z → z ≤ 9000000000000 →
      Calls Try.prog f #[.agg #[.int .i64 x, .int .i64 y, .int .i64 z]] w fun e w' => e = .returned (.int .i64 (qfn s [x, y, z])) ∧ Below w.heap.size w w')
    (hent : (entered Try.prog f).isSome = true) (hneeds : ∀ q, q ∈ (qval s cx a b d).needs → q.den env = true) {ρ : Pl} {vs : List Value} {w : World} (ha : RepL env ρ [.agg [.int .i64 a, .int .i64 b, .int .i64 d]] vs) :
    (callFunc f vs.toArray).run Try.prog w = .ok (.enter f vs.toArray) w ∧ (∀ q, q ∈ (qval s cx a b d).facts → q.den env = true) ∧ (∀ e lo hi, (e, lo, hi) ∈ (qval s cx a b d).rngs → lo ≤ e.den env ∧ e.den env ≤ hi) ∧
    Calls Try.prog f vs.toArray w fun e w' => ∃ V, e = .returned V ∧ Rep env ρ (qval s cx a b d).v V ∧ Below w.heap.size w w' := by
  obtain ⟨⟨fn, c⟩, hent⟩ := Option.isSome_iff_exists.1 hent
  obtain ⟨_, _, hcl⟩ := entered_ok hent vs.toArray w
  obtain ⟨v, vs', ⟨us, ⟨v1, r1, e1, ⟨v2, r2, e2, ⟨v3, r3, e3, e4, rfl⟩, rfl⟩, rfl⟩, rfl⟩, hnil, rfl⟩ := ha
  rw [show vs' = [] from hnil, show r3 = [] from e4, show v1 = _ from e1, show v2 = _ from e2, show v3 = _ from e3] at *
  have hq : ∀ q, q ∈ qneeds a b d → q.den env = true := by
    have : (qval s cx a b d).needs = qneeds a b d := by
      unfold qval
      split
      · rfl
      · rfl
    rwa [this] at hneeds
  have n1 := hq (.cmp .geq a (.lit (-9000000000000))) (by simp [qneeds])
  have n2 := hq (.cmp .leq a (.lit 9000000000000)) (by simp [qneeds])
  have n3 := hq (.cmp .geq b (.lit (-9000000000000))) (by simp [qneeds])
  have n4 := hq (.cmp .leq b (.lit 9000000000000)) (by simp [qneeds])
  have n5 := hq (.cmp .geq d (.lit 1)) (by simp [qneeds])
  have n6 := hq (.cmp .leq d (.lit 9000000000000)) (by simp [qneeds])
  replace n1 := of_decide_eq_true n1
  replace n2 := of_decide_eq_true n2
  replace n3 := of_decide_eq_true n3
  replace n4 := of_decide_eq_true n4
  replace n5 := of_decide_eq_true n5
  replace n6 := of_decide_eq_true n6
  have hcc := hcall (a.den env) (b.den env) (d.den env) w n1 n2 n3 n4 n5 n6
  refine ⟨hcl, ?_, ?_, ?_⟩
  · intro q hm
    unfold qval at hm
    split at hm <;> simp at hm
  · intro e lo hi hm
    unfold qval at hm
    split at hm
    · simp at hm
    · simp only [List.mem_singleton, Prod.mk.injEq] at hm
      obtain ⟨rfl, hr⟩ := hm
      have h1 := qrng_ok hc (a := a) (b := b) (d := d.den env) n5
      rw [← hr] at h1
      simp only [E.den, denL, hf]
      rcases hs with rfl | rfl
      · exact h1.1
      · exact h1.2
  · refine hcc.mono ?_
    rintro e w' ⟨rfl, hb⟩
    refine ⟨_, rfl, ?_, hb⟩
    unfold qval
    split
    · rfl
    · simp [Rep, E.den, denL, hf]

theorem qbook_ok (env : Env) (hf : env.f = qfn) : BookOK Try.prog env (qbook 75 80) := by
  intro f args cx sm hsm hc hneeds ρ vs w ha _
  unfold qbook at hsm
  split at hsm
  · rename_i a b d
    simp only [beq_dec] at hsm
    by_cases h1 : f = 75
    · simp only [h1, decide_true, if_true, Option.some.injEq] at hsm
      subst hsm
      subst h1
      exact qval_ok hf hc 1 75 (.inl rfl) a b d (fun x y z w h1 h2 h3 h4 h5 h6 => floor_any x y z w h1 h2 h3 h4 h5 h6) (by kernel_rfl) hneeds ha
    · by_cases h2 : f = 80
      · simp only [h2, decide_true, if_true, Option.some.injEq, Nat.reduceEqDiff, decide_false, Bool.false_eq_true, if_false] at hsm
        subst hsm
        subst h2
        exact qval_ok hf hc 2 80 (.inr rfl) a b d (fun x y z w h1 h2 h3 h4 h5 h6 => ceil_any x y z w h1 h2 h3 h4 h5 h6) (by kernel_rfl) hneeds ha
      · simp only [h1, h2, decide_false, Bool.false_eq_true, if_false] at hsm
        cases hsm
  · cases hsm
end Go.Proofs.Ytegllhgpnadofaa
