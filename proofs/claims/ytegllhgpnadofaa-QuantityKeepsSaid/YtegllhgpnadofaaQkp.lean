/- What a run of QuantityKeeps has to be told: exact results lie within the rounded ends. -/
import Derived.Test.YtegllhgpnadofaaQbk
namespace Go.Proofs.Ytegllhgpnadofaa.quantityKeeps
open Go.SX
set_option linter.unusedVariables false
set_option linter.unusedSimpArgs false

def fE (a b d : E) : E := .app 1 [a, b, d]
def cE (a b d : E) : E := .app 2 [a, b, d]
def mn (a b : E) : E := .op .mn a b
def mx (a b : E) : E := .op .mx a b
def mul (a b : E) : E := .op .mul a b
def add (a b : E) : E := .op .add a b
def sub (a b : E) : E := .op .sub a b
def wadd (a b : E) : E := .bin .add .i64 a b
def wsub (a b : E) : E := .bin .sub .i64 a b
def wmul (a b : E) : E := .bin .mul .i64 a b
def one : E := .lit 1
def zero : E := .lit 0
def le (a b : E) : BE := .cmp .leq a b

def qfacts (la ha x lb hb y n d : E) : List Hyp :=
  [([], .cmp .neq (add (sub ha la) one) zero, true),
   ([], .cmp .neq (add (sub hb lb) one) zero, true),
   ([], .cmp .gtr la ha, false),
   ([], .cmp .gtr lb hb, false),
   ([], le (mul (add la lb) one) (wadd x y), true),
   ([], le (wadd x y) (mul (add ha hb) one), true),
   ([], le (mul (sub la hb) one) (wsub x y), true),
   ([], le (wsub x y) (mul (sub ha lb) one), true),
   ([], le (mul (mn (fE la n d) (fE ha n d)) d) (wmul x n), true),
   ([], le (wmul x n) (mul (mx (cE la n d) (cE ha n d)) d), true),
   ([], le (mul (mn (mn (mn (fE la lb d) (fE la hb d)) (fE ha lb d)) (fE ha hb d)) d) (wmul x y), true),
   ([], le (wmul x y) (mul (mx (mx (mx (cE la lb d) (cE la hb d)) (cE ha lb d)) (cE ha hb d)) d), true),
   ([], le (mul (mn (mn (fE zero zero d) (fE la la d)) (fE ha ha d)) d) (wmul x x), true),
   ([], le (wmul x x) (mul (mx (mx (cE zero zero d) (cE la la d)) (cE ha ha d)) d), true),
   ([(le la zero, false)], le (mul (mn (fE la la d) (fE ha ha d)) d) (wmul x x), true),
   ([(le zero ha, false)], le (mul (mn (fE la la d) (fE ha ha d)) d) (wmul x x), true),
   ([], le (wmul x x) (mul (mx (cE la la d) (cE ha ha d)) d), true),
   ([], le (mul (sub zero ha) one) (wsub zero x), true),
   ([], le (wsub zero x) (mul (sub zero la) one), true),
   ([(le lb zero, false)], .cmp .lss y zero, false),
   ([(le lb zero, false)], le (wmul (mn (mn (mn (fE la n lb) (fE la n hb)) (fE ha n lb)) (fE ha n hb)) y) (wmul x n), true),
   ([(le lb zero, false)], le (wmul x n) (wmul (mx (mx (mx (cE la n lb) (cE la n hb)) (cE ha n lb)) (cE ha n hb)) y), true),
   ([(le zero hb, false)], .cmp .lss y zero, true),
   ([(le zero hb, false)], le (wmul (mn (mn (mn (fE (sub zero ha) n (sub zero hb)) (fE (sub zero ha) n (sub zero lb))) (fE (sub zero la) n (sub zero hb))) (fE (sub zero la) n (sub zero lb))) (wsub zero y)) (sub zero (wmul x n)), true),
   ([(le zero hb, false)], le (sub zero (wmul x n)) (wmul (mx (mx (mx (cE (sub zero ha) n (sub zero hb)) (cE (sub zero ha) n (sub zero lb))) (cE (sub zero la) n (sub zero hb))) (cE (sub zero la) n (sub zero lb))) (wsub zero y)), true),
   ([], le (mul (fE zero zero d) d) (wmul x x), true),
   ([(le zero hb, false)], .cmp .geq (sub zero lb) one, true)]

/-! ### numbers -/

def m2 (a b : Int) : Int := if b < a then b else a
def x2 (a b : Int) : Int := if b > a then b else a
theorem m2_le (a b : Int) : m2 a b ≤ a ∧ m2 a b ≤ b := by unfold m2; split <;> omega
theorem x2_le (a b : Int) : a ≤ x2 a b ∧ b ≤ x2 a b := by unfold x2; split <;> omega
theorem m2_ge {a b c : Int} (h : c ≤ a) (k : c ≤ b) : c ≤ m2 a b := by unfold m2; split <;> omega
theorem x2_ge {a b c : Int} (h : a ≤ c) (k : b ≤ c) : x2 a b ≤ c := by unfold x2; split <;> omega

theorem small_mul {a b A B : Int} (h1 : -A ≤ a) (h2 : a ≤ A) (h3 : -B ≤ b) (h4 : b ≤ B) : -(A * B) ≤ a * b ∧ a * b ≤ A * B := by
  have h := box_mul h1 h2 h3 h4
  simp only [Int.neg_mul, Int.mul_neg, Int.neg_neg] at h
  have : 0 ≤ A * B := Int.mul_nonneg (by omega) (by omega)
  omega

/-- the floor and the ceiling of a small product -/
theorem F_le {a b d : Int} (hd : 1 ≤ d) (h1 : -80000 ≤ a) (h2 : a ≤ 80000) (h3 : -80000 ≤ b) (h4 : b ≤ 80000) :
    QM.vF a b d * d ≤ a * b ∧ -6400000000 ≤ QM.vF a b d ∧ QM.vF a b d ≤ 6400000000 := by
  have hp := small_mul h1 h2 h3 h4
  rw [vF_fl hd (by omega) (by omega)]
  have := fl_bd hd hp.1 hp.2
  exact ⟨Int.ediv_mul_le _ (by omega), by omega, by omega⟩
theorem C_ge {a b d : Int} (hd : 1 ≤ d) (h1 : -80000 ≤ a) (h2 : a ≤ 80000) (h3 : -80000 ≤ b) (h4 : b ≤ 80000) :
    a * b ≤ QM.vC a b d * d ∧ -6400000000 ≤ QM.vC a b d ∧ QM.vC a b d ≤ 6400000000 := by
  have hp := small_mul h1 h2 h3 h4
  rw [vC_ce hd (by omega) (by omega)]
  have := fl_bd (p := -(a * b)) hd (Int.neg_le_neg hp.2) (Int.neg_le_neg hp.1)
  have h5 := Int.ediv_mul_le (-(a * b)) (show d ≠ 0 by omega)
  rw [Int.neg_mul]
  omega

theorem mul_le {m p q d : Int} (hd : 1 ≤ d) (h : m ≤ q) (k : q * d ≤ p) : m * d ≤ p := by
  have := Int.mul_le_mul_of_nonneg_right h (show 0 ≤ d by omega)
  omega
theorem le_mul {m p q d : Int} (hd : 1 ≤ d) (h : q ≤ m) (k : p ≤ q * d) : p ≤ m * d := by
  have := Int.mul_le_mul_of_nonneg_right h (show 0 ≤ d by omega)
  omega
/-- a line between two points -/
theorem line_le {m p l h y : Int} (h1 : l ≤ y) (h2 : y ≤ h) (k1 : m * l ≤ p) (k2 : m * h ≤ p) : m * y ≤ p := by
  have := (seg_mul m h1 h2).2
  rw [Int.mul_comm y m, Int.mul_comm l m, Int.mul_comm h m] at this
  omega
theorem le_line {m p l h y : Int} (h1 : l ≤ y) (h2 : y ≤ h) (k1 : p ≤ m * l) (k2 : p ≤ m * h) : p ≤ m * y := by
  have := (seg_mul m h1 h2).1
  rw [Int.mul_comm y m, Int.mul_comm l m, Int.mul_comm h m] at this
  omega

section
variable {A B C D X Y N d : Int}
/-- the least product is at a corner -/
theorem corner_le {m : Int} (h1 : A ≤ X) (h2 : X ≤ B) (h3 : C ≤ Y) (h4 : Y ≤ D) (k1 : m ≤ A * C) (k2 : m ≤ A * D) (k3 : m ≤ B * C) (k4 : m ≤ B * D) : m ≤ X * Y := by
  have := (box_mul h1 h2 h3 h4).1
  omega
theorem le_corner {m : Int} (h1 : A ≤ X) (h2 : X ≤ B) (h3 : C ≤ Y) (h4 : Y ≤ D) (k1 : A * C ≤ m) (k2 : A * D ≤ m) (k3 : B * C ≤ m) (k4 : B * D ≤ m) : X * Y ≤ m := by
  have := (box_mul h1 h2 h3 h4).2
  omega
theorem edge_le {m : Int} (h1 : A ≤ X) (h2 : X ≤ B) (k1 : m ≤ A * N) (k2 : m ≤ B * N) : m ≤ X * N := by
  have := (seg_mul N h1 h2).1
  omega
theorem le_edge {m : Int} (h1 : A ≤ X) (h2 : X ≤ B) (k1 : A * N ≤ m) (k2 : B * N ≤ m) : X * N ≤ m := by
  have := (seg_mul N h1 h2).2
  omega
theorem sq_le (h1 : A ≤ X) (h2 : X ≤ B) : X * X ≤ x2 (A * A) (B * B) := by
  have hx := x2_le (A * A) (B * B)
  by_cases h : 0 ≤ X
  · have e1 : X * X ≤ B * X := Int.mul_le_mul_of_nonneg_right h2 h
    have e2 : B * X ≤ B * B := Int.mul_le_mul_of_nonneg_left h2 (by omega)
    omega
  · have e1 : X * X ≤ A * X := Int.mul_le_mul_of_nonpos_right h1 (by omega)
    have e2 : A * X ≤ A * A := Int.mul_le_mul_of_nonpos_left (by omega) h1
    omega
end

theorem wr {v : Int} (h1 : -9223372036854775808 ≤ v) (h2 : v ≤ 9223372036854775807) : IntKind.i64.wrap v = v := wrap_id (by simpa [IntKind.min, IntKind.signed, IntKind.bits] using h1) (by simpa [IntKind.max, IntKind.signed, IntKind.bits] using h2)

/-- what is asked of the two spans and numbers -/
structure Okay (env : Env) (la ha x lb hb y n d : E) : Prop where
  a0 : -40000 ≤ la.den env
  a1 : la.den env ≤ x.den env
  a2 : x.den env ≤ ha.den env
  a3 : ha.den env ≤ 80000
  b0 : -40000 ≤ lb.den env
  b1 : lb.den env ≤ y.den env
  b2 : y.den env ≤ hb.den env
  b3 : hb.den env ≤ 80000
  n0 : -40000 ≤ n.den env
  n1 : n.den env ≤ 40000
  d0 : 1 ≤ d.den env
  d1 : d.den env ≤ 80000

theorem qfacts_hold {env : Env} (hf : env.f = qfn) {la ha x lb hb y n d : E} (o : Okay env la ha x lb hb y n d) : Hyps.hold env (qfacts la ha x lb hb y n d) := by
  obtain ⟨a0, a1, a2, a3, b0, b1, b2, b3, n0, n1, d0, d1⟩ := o
  have eF : ∀ a b c, (fE a b c).den env = QM.vF (a.den env) (b.den env) (c.den env) := by intro a b c; simp [fE, E.den, denL, hf, qfn]
  have eC : ∀ a b c, (cE a b c).den env = QM.vC (a.den env) (b.den env) (c.den env) := by intro a b c; simp [cE, E.den, denL, hf, qfn]
  have eMn : ∀ a b, (mn a b).den env = m2 (a.den env) (b.den env) := fun a b => rfl
  have eMx : ∀ a b, (mx a b).den env = x2 (a.den env) (b.den env) := fun a b => rfl
  have eMul : ∀ a b, (mul a b).den env = a.den env * b.den env := fun a b => rfl
  have eAdd : ∀ a b, (add a b).den env = a.den env + b.den env := fun a b => rfl
  have eSub : ∀ a b, (sub a b).den env = a.den env - b.den env := fun a b => rfl
  have eWadd : ∀ a b, (wadd a b).den env = IntKind.i64.wrap (a.den env + b.den env) := fun a b => rfl
  have eWsub : ∀ a b, (wsub a b).den env = IntKind.i64.wrap (a.den env - b.den env) := fun a b => rfl
  have eWmul : ∀ a b, (wmul a b).den env = IntKind.i64.wrap (a.den env * b.den env) := fun a b => rfl
  have e0 : zero.den env = 0 := rfl
  have e1 : one.den env = 1 := rfl
  have eLe : ∀ a b, (le a b).den env = decide (a.den env ≤ b.den env) := fun a b => rfl
  have cNe : ∀ a b, (BE.cmp .neq a b).den env = (a.den env != b.den env) := fun a b => rfl
  have cGt : ∀ a b, (BE.cmp .gtr a b).den env = decide (a.den env > b.den env) := fun a b => rfl
  have cGe : ∀ a b, (BE.cmp .geq a b).den env = decide (a.den env ≥ b.den env) := fun a b => rfl
  have cLt : ∀ a b, (BE.cmp .lss a b).den env = decide (a.den env < b.den env) := fun a b => rfl
  generalize hla : la.den env = A at *
  generalize hha : ha.den env = B at *
  generalize hx : x.den env = X at *
  generalize hlb : lb.den env = C at *
  generalize hhb : hb.den env = D at *
  generalize hy : y.den env = Y at *
  generalize hn : n.den env = Nn at *
  generalize hd : d.den env = dd at *
  have xn := small_mul (A := 80000) (B := 80000) (a := X) (b := Nn) (by omega) (by omega) (by omega) (by omega)
  have xy := small_mul (A := 80000) (B := 80000) (a := X) (b := Y) (by omega) (by omega) (by omega) (by omega)
  have xx := small_mul (A := 80000) (B := 80000) (a := X) (b := X) (by omega) (by omega) (by omega) (by omega)
  intro ps b v hm hps
  simp only [qfacts, List.mem_cons, List.not_mem_nil, or_false, Prod.mk.injEq] at hm
  rcases hm with ⟨rfl, rfl, rfl⟩ | ⟨rfl, rfl, rfl⟩ | ⟨rfl, rfl, rfl⟩ | ⟨rfl, rfl, rfl⟩ | ⟨rfl, rfl, rfl⟩ | ⟨rfl, rfl, rfl⟩ | ⟨rfl, rfl, rfl⟩ | ⟨rfl, rfl, rfl⟩ | ⟨rfl, rfl, rfl⟩ | ⟨rfl, rfl, rfl⟩ | ⟨rfl, rfl, rfl⟩ | ⟨rfl, rfl, rfl⟩ | ⟨rfl, rfl, rfl⟩ |
    ⟨rfl, rfl, rfl⟩ | ⟨rfl, rfl, rfl⟩ | ⟨rfl, rfl, rfl⟩ | ⟨rfl, rfl, rfl⟩ | ⟨rfl, rfl, rfl⟩ | ⟨rfl, rfl, rfl⟩ | ⟨rfl, rfl, rfl⟩ | ⟨rfl, rfl, rfl⟩ | ⟨rfl, rfl, rfl⟩ | ⟨rfl, rfl, rfl⟩ | ⟨rfl, rfl, rfl⟩ | ⟨rfl, rfl, rfl⟩ | ⟨rfl, rfl, rfl⟩ | ⟨rfl, rfl, rfl⟩
  · rw [cNe, eAdd, eSub, hla, hha, e0, e1, bne_iff_ne]; omega
  · rw [cNe, eAdd, eSub, hlb, hhb, e0, e1, bne_iff_ne]; omega
  · rw [cGt, hla, hha, decide_eq_false_iff_not]; omega
  · rw [cGt, hlb, hhb, decide_eq_false_iff_not]; omega
  · rw [eLe, eMul, eAdd, eWadd, hla, hlb, hx, hy, e1, wr (by omega) (by omega), decide_eq_true_iff]; omega
  · rw [eLe, eMul, eAdd, eWadd, hha, hhb, hx, hy, e1, wr (by omega) (by omega), decide_eq_true_iff]; omega
  · rw [eLe, eMul, eSub, eWsub, hla, hhb, hx, hy, e1, wr (by omega) (by omega), decide_eq_true_iff]; omega
  · rw [eLe, eMul, eSub, eWsub, hha, hlb, hx, hy, e1, wr (by omega) (by omega), decide_eq_true_iff]; omega
  · rw [eLe, eMul, eMn, eF, eF, eWmul, hla, hha, hx, hn, hd, wr (by omega) (by omega), decide_eq_true_iff]
    have f1 := F_le (a := A) (b := Nn) d0 (by omega) (by omega) (by omega) (by omega)
    have f2 := F_le (a := B) (b := Nn) d0 (by omega) (by omega) (by omega) (by omega)
    have m := m2_le (QM.vF A Nn dd) (QM.vF B Nn dd)
    exact edge_le a1 a2 (mul_le d0 m.1 f1.1) (mul_le d0 m.2 f2.1)
  · rw [eLe, eMul, eMx, eC, eC, eWmul, hla, hha, hx, hn, hd, wr (by omega) (by omega), decide_eq_true_iff]
    have f1 := C_ge (a := A) (b := Nn) d0 (by omega) (by omega) (by omega) (by omega)
    have f2 := C_ge (a := B) (b := Nn) d0 (by omega) (by omega) (by omega) (by omega)
    have m := x2_le (QM.vC A Nn dd) (QM.vC B Nn dd)
    exact le_edge a1 a2 (le_mul d0 m.1 f1.1) (le_mul d0 m.2 f2.1)
  · rw [eLe, eMul, eMn, eMn, eMn, eF, eF, eF, eF, eWmul, hla, hha, hlb, hhb, hx, hy, hd, wr (by omega) (by omega), decide_eq_true_iff]
    have f1 := F_le (a := A) (b := C) d0 (by omega) (by omega) (by omega) (by omega)
    have f2 := F_le (a := A) (b := D) d0 (by omega) (by omega) (by omega) (by omega)
    have f3 := F_le (a := B) (b := C) d0 (by omega) (by omega) (by omega) (by omega)
    have f4 := F_le (a := B) (b := D) d0 (by omega) (by omega) (by omega) (by omega)
    have m := m2_le (QM.vF A C dd) (QM.vF A D dd)
    have m' := m2_le (m2 (QM.vF A C dd) (QM.vF A D dd)) (QM.vF B C dd)
    have m'' := m2_le (m2 (m2 (QM.vF A C dd) (QM.vF A D dd)) (QM.vF B C dd)) (QM.vF B D dd)
    exact corner_le a1 a2 b1 b2 (mul_le d0 (by omega) f1.1) (mul_le d0 (by omega) f2.1) (mul_le d0 (by omega) f3.1) (mul_le d0 (by omega) f4.1)
  · rw [eLe, eMul, eMx, eMx, eMx, eC, eC, eC, eC, eWmul, hla, hha, hlb, hhb, hx, hy, hd, wr (by omega) (by omega), decide_eq_true_iff]
    have f1 := C_ge (a := A) (b := C) d0 (by omega) (by omega) (by omega) (by omega)
    have f2 := C_ge (a := A) (b := D) d0 (by omega) (by omega) (by omega) (by omega)
    have f3 := C_ge (a := B) (b := C) d0 (by omega) (by omega) (by omega) (by omega)
    have f4 := C_ge (a := B) (b := D) d0 (by omega) (by omega) (by omega) (by omega)
    have m := x2_le (QM.vC A C dd) (QM.vC A D dd)
    have m' := x2_le (x2 (QM.vC A C dd) (QM.vC A D dd)) (QM.vC B C dd)
    have m'' := x2_le (x2 (x2 (QM.vC A C dd) (QM.vC A D dd)) (QM.vC B C dd)) (QM.vC B D dd)
    exact le_corner a1 a2 b1 b2 (le_mul d0 (by omega) f1.1) (le_mul d0 (by omega) f2.1) (le_mul d0 (by omega) f3.1) (le_mul d0 (by omega) f4.1)
  · rw [eLe, eMul, eMn, eMn, eF, eF, eF, eWmul, hla, hha, hx, hd, e0, wr (by omega) (by omega), decide_eq_true_iff]
    have f1 := F_le (a := 0) (b := 0) d0 (by omega) (by omega) (by omega) (by omega)
    have m := m2_le (QM.vF 0 0 dd) (QM.vF A A dd)
    have m' := m2_le (m2 (QM.vF 0 0 dd) (QM.vF A A dd)) (QM.vF B B dd)
    have h := mul_le d0 (show m2 (m2 (QM.vF 0 0 dd) (QM.vF A A dd)) (QM.vF B B dd) ≤ QM.vF 0 0 dd by omega) f1.1
    have : 0 ≤ X * X := by
      rcases Int.le_total 0 X with h | h
      · exact Int.mul_nonneg h h
      · exact Int.mul_nonneg_of_nonpos_of_nonpos h h
    omega
  · rw [eLe, eMul, eMx, eMx, eC, eC, eC, eWmul, hla, hha, hx, hd, e0, wr (by omega) (by omega), decide_eq_true_iff]
    have f2 := C_ge (a := A) (b := A) d0 (by omega) (by omega) (by omega) (by omega)
    have f3 := C_ge (a := B) (b := B) d0 (by omega) (by omega) (by omega) (by omega)
    have m := x2_le (QM.vC 0 0 dd) (QM.vC A A dd)
    have m' := x2_le (x2 (QM.vC 0 0 dd) (QM.vC A A dd)) (QM.vC B B dd)
    have h1 := le_mul d0 (show QM.vC A A dd ≤ x2 (x2 (QM.vC 0 0 dd) (QM.vC A A dd)) (QM.vC B B dd) by omega) f2.1
    have h2 := le_mul d0 (show QM.vC B B dd ≤ x2 (x2 (QM.vC 0 0 dd) (QM.vC A A dd)) (QM.vC B B dd) by omega) f3.1
    exact Int.le_trans (sq_le a1 a2) (x2_ge h1 h2)
  · have hp := hps _ (List.mem_singleton.2 rfl)
    rw [eLe, hla, e0, decide_eq_false_iff_not] at hp
    rw [eLe, eMul, eMn, eF, eF, eWmul, hla, hha, hx, hd, wr (by omega) (by omega), decide_eq_true_iff]
    have f1 := F_le (a := A) (b := A) d0 (by omega) (by omega) (by omega) (by omega)
    have m := m2_le (QM.vF A A dd) (QM.vF B B dd)
    have h := mul_le d0 m.1 f1.1
    have g1 : A * A ≤ X * A := Int.mul_le_mul_of_nonneg_right a1 (by omega)
    have g2 : X * A ≤ X * X := Int.mul_le_mul_of_nonneg_left a1 (by omega)
    omega
  · have hp := hps _ (List.mem_singleton.2 rfl)
    rw [eLe, hha, e0, decide_eq_false_iff_not] at hp
    rw [eLe, eMul, eMn, eF, eF, eWmul, hla, hha, hx, hd, wr (by omega) (by omega), decide_eq_true_iff]
    have f1 := F_le (a := B) (b := B) d0 (by omega) (by omega) (by omega) (by omega)
    have m := m2_le (QM.vF A A dd) (QM.vF B B dd)
    have h := mul_le d0 m.2 f1.1
    have g1 : B * B ≤ X * B := Int.mul_le_mul_of_nonpos_right a2 (by omega)
    have g2 : X * B ≤ X * X := Int.mul_le_mul_of_nonpos_left (by omega) a2
    omega
  · rw [eLe, eMul, eMx, eC, eC, eWmul, hla, hha, hx, hd, wr (by omega) (by omega), decide_eq_true_iff]
    have f2 := C_ge (a := A) (b := A) d0 (by omega) (by omega) (by omega) (by omega)
    have f3 := C_ge (a := B) (b := B) d0 (by omega) (by omega) (by omega) (by omega)
    have m := x2_le (QM.vC A A dd) (QM.vC B B dd)
    exact Int.le_trans (sq_le a1 a2) (x2_ge (le_mul d0 m.1 f2.1) (le_mul d0 m.2 f3.1))
  · rw [eLe, eMul, eSub, eWsub, hha, hx, e0, e1, wr (by omega) (by omega), decide_eq_true_iff]; omega
  · rw [eLe, eMul, eSub, eWsub, hla, hx, e0, e1, wr (by omega) (by omega), decide_eq_true_iff]; omega
  · have hp := hps _ (List.mem_singleton.2 rfl)
    rw [eLe, hlb, e0, decide_eq_false_iff_not] at hp
    rw [cLt, hy, e0, decide_eq_false_iff_not]; omega
  · have hp := hps _ (List.mem_singleton.2 rfl)
    rw [eLe, hlb, e0, decide_eq_false_iff_not] at hp
    have f1 := F_le (a := A) (b := Nn) (d := C) (by omega) (by omega) (by omega) (by omega) (by omega)
    have f2 := F_le (a := A) (b := Nn) (d := D) (by omega) (by omega) (by omega) (by omega) (by omega)
    have f3 := F_le (a := B) (b := Nn) (d := C) (by omega) (by omega) (by omega) (by omega) (by omega)
    have f4 := F_le (a := B) (b := Nn) (d := D) (by omega) (by omega) (by omega) (by omega) (by omega)
    rw [eLe, eWmul, eWmul, eMn, eMn, eMn, eF, eF, eF, eF, hla, hha, hlb, hhb, hx, hy, hn]
    have g0 := m2_ge (m2_ge (m2_ge f1.2.1 f2.2.1) f3.2.1) f4.2.1
    have m := m2_le (QM.vF A Nn C) (QM.vF A Nn D)
    have m' := m2_le (m2 (QM.vF A Nn C) (QM.vF A Nn D)) (QM.vF B Nn C)
    have m'' := m2_le (m2 (m2 (QM.vF A Nn C) (QM.vF A Nn D)) (QM.vF B Nn C)) (QM.vF B Nn D)
    generalize m2 (m2 (m2 (QM.vF A Nn C) (QM.vF A Nn D)) (QM.vF B Nn C)) (QM.vF B Nn D) = q at *
    have hq := small_mul (A := 6400000000) (B := 80000) (a := q) (b := Y) (by omega) (by omega) (by omega) (by omega)
    rw [wr (by omega) (by omega), wr (by omega) (by omega), decide_eq_true_iff]
    have k1 := mul_le (m := q) (show 1 ≤ C by omega) (by omega) f1.1
    have k2 := mul_le (m := q) (show 1 ≤ D by omega) (by omega) f2.1
    have k3 := mul_le (m := q) (show 1 ≤ C by omega) (by omega) f3.1
    have k4 := mul_le (m := q) (show 1 ≤ D by omega) (by omega) f4.1
    exact edge_le a1 a2 (line_le b1 b2 k1 k2) (line_le b1 b2 k3 k4)
  · have hp := hps _ (List.mem_singleton.2 rfl)
    rw [eLe, hlb, e0, decide_eq_false_iff_not] at hp
    have f1 := C_ge (a := A) (b := Nn) (d := C) (by omega) (by omega) (by omega) (by omega) (by omega)
    have f2 := C_ge (a := A) (b := Nn) (d := D) (by omega) (by omega) (by omega) (by omega) (by omega)
    have f3 := C_ge (a := B) (b := Nn) (d := C) (by omega) (by omega) (by omega) (by omega) (by omega)
    have f4 := C_ge (a := B) (b := Nn) (d := D) (by omega) (by omega) (by omega) (by omega) (by omega)
    rw [eLe, eWmul, eWmul, eMx, eMx, eMx, eC, eC, eC, eC, hla, hha, hlb, hhb, hx, hy, hn]
    have g0 := x2_ge (x2_ge (x2_ge f1.2.2 f2.2.2) f3.2.2) f4.2.2
    have m := x2_le (QM.vC A Nn C) (QM.vC A Nn D)
    have m' := x2_le (x2 (QM.vC A Nn C) (QM.vC A Nn D)) (QM.vC B Nn C)
    have m'' := x2_le (x2 (x2 (QM.vC A Nn C) (QM.vC A Nn D)) (QM.vC B Nn C)) (QM.vC B Nn D)
    generalize x2 (x2 (x2 (QM.vC A Nn C) (QM.vC A Nn D)) (QM.vC B Nn C)) (QM.vC B Nn D) = q at *
    have hq := small_mul (A := 6400000000) (B := 80000) (a := q) (b := Y) (by omega) (by omega) (by omega) (by omega)
    rw [wr (by omega) (by omega), wr (by omega) (by omega), decide_eq_true_iff]
    have k1 := le_mul (m := q) (show 1 ≤ C by omega) (by omega) f1.1
    have k2 := le_mul (m := q) (show 1 ≤ D by omega) (by omega) f2.1
    have k3 := le_mul (m := q) (show 1 ≤ C by omega) (by omega) f3.1
    have k4 := le_mul (m := q) (show 1 ≤ D by omega) (by omega) f4.1
    exact le_edge a1 a2 (le_line b1 b2 k1 k2) (le_line b1 b2 k3 k4)
  · have hp := hps _ (List.mem_singleton.2 rfl)
    rw [eLe, hhb, e0, decide_eq_false_iff_not] at hp
    rw [cLt, hy, e0, decide_eq_true_iff]; omega
  · have hp := hps _ (List.mem_singleton.2 rfl)
    rw [eLe, hhb, e0, decide_eq_false_iff_not] at hp
    have f1 := F_le (a := 0 - B) (b := Nn) (d := 0 - D) (by omega) (by omega) (by omega) (by omega) (by omega)
    have f2 := F_le (a := 0 - B) (b := Nn) (d := 0 - C) (by omega) (by omega) (by omega) (by omega) (by omega)
    have f3 := F_le (a := 0 - A) (b := Nn) (d := 0 - D) (by omega) (by omega) (by omega) (by omega) (by omega)
    have f4 := F_le (a := 0 - A) (b := Nn) (d := 0 - C) (by omega) (by omega) (by omega) (by omega) (by omega)
    rw [eLe, eSub, eWmul, eWmul, eWsub, eMn, eMn, eMn, eF, eF, eF, eF, eSub, eSub, eSub, eSub, hla, hha, hlb, hhb, hx, hy, hn, e0]
    have g0 := m2_ge (m2_ge (m2_ge f1.2.1 f2.2.1) f3.2.1) f4.2.1
    have m := m2_le (QM.vF (0 - B) Nn (0 - D)) (QM.vF (0 - B) Nn (0 - C))
    have m' := m2_le (m2 (QM.vF (0 - B) Nn (0 - D)) (QM.vF (0 - B) Nn (0 - C))) (QM.vF (0 - A) Nn (0 - D))
    have m'' := m2_le (m2 (m2 (QM.vF (0 - B) Nn (0 - D)) (QM.vF (0 - B) Nn (0 - C))) (QM.vF (0 - A) Nn (0 - D))) (QM.vF (0 - A) Nn (0 - C))
    generalize m2 (m2 (m2 (QM.vF (0 - B) Nn (0 - D)) (QM.vF (0 - B) Nn (0 - C))) (QM.vF (0 - A) Nn (0 - D))) (QM.vF (0 - A) Nn (0 - C)) = q at *
    rw [wr (v := 0 - Y) (by omega) (by omega)]
    have hq := small_mul (A := 6400000000) (B := 80000) (a := q) (b := 0 - Y) (by omega) (by omega) (by omega) (by omega)
    rw [wr (by omega) (by omega), wr (by omega) (by omega), decide_eq_true_iff]
    have k1 := mul_le (m := q) (show 1 ≤ 0 - D by omega) (by omega) f1.1
    have k2 := mul_le (m := q) (show 1 ≤ 0 - C by omega) (by omega) f2.1
    have k3 := mul_le (m := q) (show 1 ≤ 0 - D by omega) (by omega) f3.1
    have k4 := mul_le (m := q) (show 1 ≤ 0 - C by omega) (by omega) f4.1
    have h9 := edge_le (A := 0 - B) (X := 0 - X) (B := 0 - A) (N := Nn) (by omega) (by omega) (line_le (y := 0 - Y) (l := 0 - D) (h := 0 - C) (by omega) (by omega) k1 k2) (line_le (y := 0 - Y) (l := 0 - D) (h := 0 - C) (by omega) (by omega) k3 k4)
    rw [Int.sub_mul, Int.zero_mul] at h9
    exact h9
  · have hp := hps _ (List.mem_singleton.2 rfl)
    rw [eLe, hhb, e0, decide_eq_false_iff_not] at hp
    have f1 := C_ge (a := 0 - B) (b := Nn) (d := 0 - D) (by omega) (by omega) (by omega) (by omega) (by omega)
    have f2 := C_ge (a := 0 - B) (b := Nn) (d := 0 - C) (by omega) (by omega) (by omega) (by omega) (by omega)
    have f3 := C_ge (a := 0 - A) (b := Nn) (d := 0 - D) (by omega) (by omega) (by omega) (by omega) (by omega)
    have f4 := C_ge (a := 0 - A) (b := Nn) (d := 0 - C) (by omega) (by omega) (by omega) (by omega) (by omega)
    rw [eLe, eSub, eWmul, eWmul, eWsub, eMx, eMx, eMx, eC, eC, eC, eC, eSub, eSub, eSub, eSub, hla, hha, hlb, hhb, hx, hy, hn, e0]
    have g0 := x2_ge (x2_ge (x2_ge f1.2.2 f2.2.2) f3.2.2) f4.2.2
    have m := x2_le (QM.vC (0 - B) Nn (0 - D)) (QM.vC (0 - B) Nn (0 - C))
    have m' := x2_le (x2 (QM.vC (0 - B) Nn (0 - D)) (QM.vC (0 - B) Nn (0 - C))) (QM.vC (0 - A) Nn (0 - D))
    have m'' := x2_le (x2 (x2 (QM.vC (0 - B) Nn (0 - D)) (QM.vC (0 - B) Nn (0 - C))) (QM.vC (0 - A) Nn (0 - D))) (QM.vC (0 - A) Nn (0 - C))
    generalize x2 (x2 (x2 (QM.vC (0 - B) Nn (0 - D)) (QM.vC (0 - B) Nn (0 - C))) (QM.vC (0 - A) Nn (0 - D))) (QM.vC (0 - A) Nn (0 - C)) = q at *
    rw [wr (v := 0 - Y) (by omega) (by omega)]
    have hq := small_mul (A := 6400000000) (B := 80000) (a := q) (b := 0 - Y) (by omega) (by omega) (by omega) (by omega)
    rw [wr (by omega) (by omega), wr (by omega) (by omega), decide_eq_true_iff]
    have k1 := le_mul (m := q) (show 1 ≤ 0 - D by omega) (by omega) f1.1
    have k2 := le_mul (m := q) (show 1 ≤ 0 - C by omega) (by omega) f2.1
    have k3 := le_mul (m := q) (show 1 ≤ 0 - D by omega) (by omega) f3.1
    have k4 := le_mul (m := q) (show 1 ≤ 0 - C by omega) (by omega) f4.1
    have h9 := le_edge (A := 0 - B) (X := 0 - X) (B := 0 - A) (N := Nn) (by omega) (by omega) (le_line (y := 0 - Y) (l := 0 - D) (h := 0 - C) (by omega) (by omega) k1 k2) (le_line (y := 0 - Y) (l := 0 - D) (h := 0 - C) (by omega) (by omega) k3 k4)
    rw [Int.sub_mul, Int.zero_mul] at h9
    exact h9
  · rw [eLe, eMul, eF, eWmul, hx, hd, e0, wr (by omega) (by omega), decide_eq_true_iff]
    have f1 := F_le (a := 0) (b := 0) d0 (by omega) (by omega) (by omega) (by omega)
    have : 0 ≤ X * X := by
      rcases Int.le_total 0 X with h | h
      · exact Int.mul_nonneg h h
      · exact Int.mul_nonneg_of_nonpos_of_nonpos h h
    omega
  · have hp := hps _ (List.mem_singleton.2 rfl)
    rw [eLe, hhb, e0, decide_eq_false_iff_not] at hp
    rw [cGe, eSub, hlb, e0, e1, decide_eq_true_iff]; omega
end Go.Proofs.Ytegllhgpnadofaa.quantityKeeps
