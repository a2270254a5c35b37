/- The level up to which wheels can be filled, and the loops that find it: the program's halves, the reference's adds steps. -/
import Derived.Test.YtpedboeggmffnaaSw40
import Derived.Test.YtpedboeggmffnaaChecked
namespace Go.Proofs.Ytpedboeggmffnaa
open Go Go.SX Go.RowKit
set_option linter.unusedVariables false
set_option linter.unusedSimpArgs false
set_option maxRecDepth 100000
def bet (e : E) (lo hi : Int) : List BE := [.cmp .geq e (.lit lo), .cmp .leq e (.lit hi)]
def sp2 : Bool × List (Option IntKind) := (true, [some .i64, some .i64])
def sI : Bool × List (Option IntKind) := (false, [some .i64])
def fl : PSh := .flat false [some .i64]
def rw : PSh := .row [some .i64]
def shS : List (Bool × PSh) := [(true, fl), (true, rw)]
def el (i : Nat) : E := .app 5000 [.lit i]
def exS (n : Nat) : List E := [.var 0, .lit n]
def rgS (n : Nat) : List BE := bet (.var 0) 0 68719476736 ++ ((List.range n).map fun i => bet (el i) 0 68719476736).flatten
def sumS (x : E) : Nat → E
  | 0 => .lit 0
  | n + 1 => .op .add (sumS x n) (.op .mn x (el n))
def lvS (n : Nat) (a b : E) : E := .app 21 (a :: b :: exS n)
def rsS (n : Nat) : E := .conv .u64 (.app 22 (exS n))
def midS : E := .op .sub (.var 3) (.op .tdiv (.op .sub (.var 3) (.var 2)) (.lit 2))
def upS : E := .op .add (.var 2) (.var 3)
def hfS : E := .op .tdiv (.var 3) (.lit 2)
def ctP (n : Nat) : CT := .ite (.cmp .lss (.var 2) (.var 3)) (.ite (.cmp .leq (sumS midS n) (.var 0)) (.again [midS, .var 3]) (.again [.var 2, .op .sub midS (.lit 1)])) (.exit 0 [.var 2])
def ctR (n : Nat) : CT := .ite (.cmp .gtr (.var 3) (.lit 0)) (.ite (.cmp .leq upS (.lit 68719476736)) (.ite (.cmp .leq (sumS upS n) (.var 0)) (.again [upS, hfS]) (.again [.var 2, hfS])) (.again [.var 2, hfS])) (.exit 0 [.var 2])
def postS (n : Nat) : List BE := [.cmp .eql (rsS n) (.op .sub (.var 0) (sumS (lvS n (.var 2) (.var 3)) n))]
def prS (n : Nat) : List (E × Int × Int) := [(lvS n (.var 2) (.var 3), 0, 68719476736), (rsS n, 0, 68719476736)]
def preS : List BE := [.cmp .eql (.var 2) (.lit 0), .cmp .eql (.var 3) (.lit 68719476736)]
def loopP (n : Nat) : LC :=
  ⟨2, 2, [(5, .int .i64 (.var 2)), (6, .int .i64 (.var 3))], [], [0, 1, 4], [(0, 68719476736), (0, 68719476736)], rgS n ++ ([.cmp .leq (.var 2) (.var 3)] : List BE),
   [⟨.exit 0, 1, [(5, .int .i64 (.var 2))], [], []⟩], ctP n, preS, 20, postS n, prS n, exS n, []⟩
def loopR (n : Nat) : LC :=
  ⟨2, 2, [(7, .int .i64 (.var 2)), (8, .int .i64 (.var 3))], [], [0, 1], [(0, 68719476736), (0, 68719476736)], rgS n,
   [⟨.exit 2, 1, [(7, .int .i64 (.var 2))], [], []⟩], ctR n, preS, 20, postS n, prS n, exS n, []⟩
def loopsS (n : Nat) : LBook := fun f i => if f == 19 && i == 2 then some (fun _ _ => some (loopP n)) else if f == 9 && i == 12 then some (fun _ _ => some (loopR n)) else none
def XS (n : Nat) : Par := { noPar with loops := loopsS n }
def preN (n : Nat) : List BE := [.cmp .geq (.var 1) (.lit n), .cmp .leq (.var 1) (.lit n)]
def outS : List OC := [.row [some .i64] 2, .num (.int .i64 (.lit 0))]

def LvE (n : Nat) : E := lvS n (.lit 0) (.lit 68719476736)
def shE (n i : Nat) : E := .op .mn (LvE n) (el i)
def lfV (es : List E) (n : Int) (e : Int) : VT := .leaf (.agg [.int .i64 (.app 1000 es), .int .i64 (.lit n), .int .i64 (.lit e)])
def errV (e : Int) : VT := lfV [] 0 e
/-- what is left is handed out; k wheels to go -/
def dist (n : Nat) : Nat → E → List E → VT
  | 0, _, acc => lfV acc n 0
  | k + 1, left, acc => .ite (.cmp .lss (shE n (n - (k + 1))) (el (n - (k + 1))))
      (.ite (.cmp .eql left (.lit 0)) (lfV (acc ++ (List.range (k + 1)).map fun j => shE n (n - (k + 1) + j)) n 0) (dist n k (.op .sub left (.lit 1)) (acc ++ [.op .add (shE n (n - (k + 1))) (.lit 1)])))
      (dist n k left (acc ++ [shE n (n - (k + 1))]))
def inV (e : E) (t : VT) : VT := .ite (.cmp .leq (.lit 0) e) (.ite (.neg (.cmp .leq e (.lit 68719476736))) (errV 3) t) (errV 3)
def elsV (n : Nat) (t : VT) : Nat → VT
  | 0 => t
  | k + 1 => inV (el (n - (k + 1))) (elsV n t k)
def shV (n : Nat) : VT := inV (.var 0) (elsV n (dist n n (rsS n) []) n)
theorem mixB : Try.prog.follows .mixedOrders = true := by kernel_rfl
/-- what is poured up to a level -/
def pour (m : Nat → Int) (x : Int) : Nat → Int
  | 0 => 0
  | n + 1 => pour m x n + min x (m n)
theorem pour_mono {m : Nat → Int} {x y : Int} (h : x ≤ y) : ∀ n, pour m x n ≤ pour m y n
  | 0 => Int.le_refl _
  | n + 1 => by have := pour_mono h n (m := m); simp only [pour]; omega
theorem pour_zero {m : Nat → Int} : ∀ {n : Nat}, (∀ i, i < n → 0 ≤ m i) → pour m 0 n = 0
  | 0, _ => rfl
  | n + 1, h => by
      have h1 := pour_zero (n := n) fun i hi => h i (by omega)
      have h2 := h n (by omega)
      simp only [pour]; omega
theorem pour_nn {m : Nat → Int} {x : Int} {n : Nat} (hx : 0 ≤ x) (h : ∀ i, i < n → 0 ≤ m i) : 0 ≤ pour m x n := by
  have := pour_mono (m := m) hx n
  rwa [pour_zero h] at this
def IsLv (m : Nat → Int) (n : Nat) (t x : Int) : Prop := (0 ≤ x ∧ x ≤ 68719476736) ∧ pour m x n ≤ t ∧ ∀ y, x < y → y ≤ 68719476736 → t < pour m y n
theorem lv_ex {m : Nat → Int} {n : Nat} {t : Int} : ∀ (k : Nat) (x : Int), 0 ≤ x → x ≤ 68719476736 → (68719476736 - x).toNat ≤ k → pour m x n ≤ t → ∃ y, IsLv m n t y
  | 0, x, h0, h1, hk, hp => ⟨x, ⟨h0, h1⟩, hp, fun y h2 h3 => by omega⟩
  | k + 1, x, h0, h1, hk, hp => by
      by_cases hx : x < 68719476736 ∧ pour m (x + 1) n ≤ t
      · exact lv_ex k (x + 1) (by omega) (by omega) (by omega) hx.2
      · refine ⟨x, ⟨h0, h1⟩, hp, fun y h2 h3 => ?_⟩
        have := pour_mono (m := m) (show x + 1 ≤ y by omega) n
        omega
open Classical in
noncomputable def LV (m : Nat → Int) (n : Nat) (t : Int) : Int := if h : ∃ y, IsLv m n t y then Classical.choose h else 0
theorem LV_is {m : Nat → Int} {n : Nat} {t : Int} (ht : 0 ≤ t) (h : ∀ i, i < n → 0 ≤ m i) : IsLv m n t (LV m n t) := by
  have hex := lv_ex (m := m) (n := n) (t := t) _ 0 (by decide) (by decide) (Nat.le_refl _) (by rw [pour_zero h]; exact ht)
  unfold LV
  rw [dif_pos hex]
  exact Classical.choose_spec hex
/-- a level is not too great just if it is at most this one -/
theorem LV_iff {m : Nat → Int} {n : Nat} {t x : Int} (ht : 0 ≤ t) (h : ∀ i, i < n → 0 ≤ m i) (hx : x ≤ 68719476736) : pour m x n ≤ t ↔ x ≤ LV m n t := by
  obtain ⟨h1, h2, h3⟩ := LV_is ht h
  constructor
  · intro h4
    by_cases h5 : x ≤ LV m n t
    · exact h5
    · have := h3 x (by omega) hx
      omega
  · intro h4
    exact Int.le_trans (pour_mono h4 n) h2
def mOf (f : Nat → List Int → Int) : Nat → Int := fun i => f 5000 [(i : Int)]
/-- the functions of the loops -/
noncomputable def bfn (g : Nat → List Int → Int) : Nat → List Int → Int := fun k a => match k, a with
  | 20, [_, _, _, _] => 0
  | 21, [_, _, t, n] => LV (mOf g) n.toNat t
  | 22, [t, n] => t - pour (mOf g) (LV (mOf g) n.toNat t) n.toNat
  | k, a => g k a
structure GoodL (fn : Nat → List Int → Int) : Prop where
  rows : RowFn fn
  exit : ∀ x y t n, fn 20 [x, y, t, n] = 0
  lv : ∀ x y t n, fn 21 [x, y, t, n] = LV (mOf fn) n.toNat t
  rest : ∀ t n, fn 22 [t, n] = t - pour (mOf fn) (LV (mOf fn) n.toNat t) n.toNat
theorem sumS_den {env : Env} (x : E) : ∀ n, (sumS x n).den env = pour (mOf env.f) (x.den env) n
  | 0 => rfl
  | n + 1 => by
      simp only [sumS, pour, den_add, den_mn, sumS_den x n]
      rfl
theorem rgS_iff {env : Env} {n : Nat} : (∀ b, b ∈ rgS n → b.den env = true) ↔ (0 ≤ env.v 0 ∧ env.v 0 ≤ 68719476736) ∧ ∀ i, i < n → 0 ≤ mOf env.f i ∧ mOf env.f i ≤ 68719476736 := by
  have e0 : ∀ (e : E) (lo hi : Int), (∀ b, b ∈ bet e lo hi → b.den env = true) ↔ (lo ≤ e.den env ∧ e.den env ≤ hi) := by
    intro e lo hi
    simp only [bet, List.mem_cons, List.not_mem_nil, or_false, forall_eq_or_imp, forall_eq, den_lit, den_var, den_ite, den_cmp, den_cmpB, den_tst, den_tstF, den_negT, den_negF, den_andT, den_andF, lssT, leqT, gtrT, geqT, eqlT, neqT, lssF, leqF, gtrF, geqF, eqlF, neqF, den_app, den_nilL, den_consL, den_add, den_sub, den_mul, den_tdiv, den_tmod, den_mx, den_mn, den_blit, den_bin, binI]
  unfold rgS
  rw [List.forall_mem_append, e0]
  refine and_congr Iff.rfl ?_
  simp only [List.mem_flatten, List.mem_map, List.mem_range]
  constructor
  · intro h i hi
    exact (e0 _ _ _).1 fun b hb => h b ⟨_, ⟨i, hi, rfl⟩, hb⟩
  · rintro h b ⟨l, ⟨i, hi, rfl⟩, hb⟩
    exact (e0 _ _ _).2 (h i hi) b hb
section
variable (env : Env) (a b : Int)
theorem lvv0 : (env.upd 2 [a, b]).v 0 = env.v 0 := rfl
theorem lvv1 : (env.upd 2 [a, b]).v 1 = env.v 1 := rfl
theorem lvv2 : (env.upd 2 [a, b]).v 2 = a := rfl
theorem lvv3 : (env.upd 2 [a, b]).v 3 = b := rfl
theorem lvvf : (env.upd 2 [a, b]).f = env.f := rfl
end
def Rg (env : Env) (n : Nat) : Prop := (0 ≤ env.v 0 ∧ env.v 0 ≤ 68719476736) ∧ ∀ i, i < n → 0 ≤ mOf env.f i ∧ mOf env.f i ≤ 68719476736
theorem factsP_append {env : Env} : ∀ {a b : List BE}, factsP env (a ++ b) ↔ factsP env a ∧ factsP env b
  | [], b => by simp [factsP]
  | x :: a, b => by simp only [List.cons_append, factsP, factsP_append, and_assoc]
theorem headP {env : Env} {n : Nat} {lo hi : Int} : HeadOK env (loopP n) [lo, hi] ↔ (0 ≤ lo ∧ lo ≤ 68719476736) ∧ (0 ≤ hi ∧ hi ≤ 68719476736) ∧ Rg env n ∧ lo ≤ hi := by
  rw [headOK_iff]
  show rngsP (env.upd 2 [lo, hi]) 2 [(0, 68719476736), (0, 68719476736)] ∧ factsP (env.upd 2 [lo, hi]) (rgS n ++ ([.cmp .leq (.var 2) (.var 3)] : List BE)) ↔ _
  rw [factsP_append, factsP_iff, rgS_iff]
  simp only [rngsP, factsP, Nat.reduceAdd, den_lit, den_var, den_ite, den_cmp, den_cmpB, den_tst, den_tstF, den_negT, den_negF, den_andT, den_andF, lssT, leqT, gtrT, geqT, eqlT, neqT, lssF, leqF, gtrF, geqF, eqlF, neqF, den_app, den_nilL, den_consL, den_add, den_sub, den_mul, den_tdiv, den_tmod, den_mx, den_mn, den_blit, den_bin, binI, lvv0, lvv2, lvv3, lvvf, and_true, Rg]
  simp only [and_assoc]
theorem headR {env : Env} {n : Nat} {lo hi : Int} : HeadOK env (loopR n) [lo, hi] ↔ (0 ≤ lo ∧ lo ≤ 68719476736) ∧ (0 ≤ hi ∧ hi ≤ 68719476736) ∧ Rg env n := by
  rw [headOK_iff]
  show rngsP (env.upd 2 [lo, hi]) 2 [(0, 68719476736), (0, 68719476736)] ∧ factsP (env.upd 2 [lo, hi]) (rgS n) ↔ _
  rw [factsP_iff, rgS_iff]
  simp only [rngsP, Nat.reduceAdd, den_lit, den_var, den_ite, den_cmp, den_cmpB, den_tst, den_tstF, den_negT, den_negF, den_andT, den_andF, lssT, leqT, gtrT, geqT, eqlT, neqT, lssF, leqF, gtrF, geqF, eqlF, neqF, den_app, den_nilL, den_consL, den_add, den_sub, den_mul, den_tdiv, den_tmod, den_mx, den_mn, den_blit, den_bin, binI, lvv0, lvv2, lvv3, lvvf, and_true, Rg]
  simp only [and_assoc]
theorem Rg.nn {env : Env} {n : Nat} (h : Rg env n) : ∀ i, i < n → 0 ≤ mOf env.f i := fun i hi => (h.2 i hi).1
theorem P_runs {env : Env} {n : Nat} (hr : Rg env n) : ∀ (k : Nat) {lo hi : Int}, (hi - lo).toNat ≤ k → 0 ≤ lo → lo ≤ LV (mOf env.f) n (env.v 0) → LV (mOf env.f) n (env.v 0) ≤ hi → hi ≤ 68719476736 →
    Runs env (loopP n) [lo, hi] 0 [LV (mOf env.f) n (env.v 0)]
  | k, lo, hi, hk, h0, h1, h2, h3 => by
      have hh : HeadOK env (loopP n) [lo, hi] := headP.2 ⟨by omega, by omega, hr, by omega⟩
      have hev : (loopP n).ct.ev (env.upd (loopP n).base [lo, hi]) = if lo < hi then (if hi - (hi - lo) / 2 ≤ LV (mOf env.f) n (env.v 0) then some (0, [hi - (hi - lo) / 2, hi]) else some (0, [lo, hi - (hi - lo) / 2 - 1])) else some (1, [lo]) := by
        show (ctP n).ev (env.upd 2 [lo, hi]) = _
        simp only [ctP, midS, ct_ite, ct_again, ct_exit, sumS_den, den_lit, den_var, den_ite, den_cmp, den_cmpB, den_tst, den_tstF, den_negT, den_negF, den_andT, den_andF, lssT, leqT, gtrT, geqT, eqlT, neqT, lssF, leqF, gtrF, geqF, eqlF, neqF, den_app, den_nilL, den_consL, den_add, den_sub, den_mul, den_tdiv, den_tmod, den_mx, den_mn, den_blit, den_bin, binI, lvv0, lvv2, lvv3, lvvf]
        by_cases hlt : lo < hi
        · rw [if_pos hlt, if_pos hlt, Int.tdiv_eq_ediv_of_nonneg (show 0 ≤ hi - lo by omega)]
          have := LV_iff (x := hi - (hi - lo) / 2) hr.1.1 hr.nn (by omega)
          by_cases hp : hi - (hi - lo) / 2 ≤ LV (mOf env.f) n (env.v 0)
          · rw [if_pos (this.2 hp), if_pos hp]
          · rw [if_neg (fun h => hp (this.1 h)), if_neg hp]
        · rw [if_neg hlt, if_neg hlt]
      by_cases hlt : lo < hi
      · rw [if_pos hlt] at hev
        cases k with
        | zero => omega
        | succ k =>
          by_cases hp : hi - (hi - lo) / 2 ≤ LV (mOf env.f) n (env.v 0)
          · rw [if_pos hp] at hev
            exact .again hh hev (P_runs hr k (by omega) (by omega) hp h2 h3)
          · rw [if_neg hp] at hev
            exact .again hh hev (P_runs hr k (by omega) h0 h1 (by omega) (by omega))
      · rw [if_neg hlt] at hev
        rw [show LV (mOf env.f) n (env.v 0) = lo by omega]
        exact .exit hh hev
theorem R_ev {env : Env} {n : Nat} (hr : Rg env n) {lo st : Int} (h0 : 0 ≤ st) :
    (loopR n).ct.ev (env.upd (loopR n).base [lo, st]) = if 0 < st then (if lo + st ≤ 68719476736 ∧ lo + st ≤ LV (mOf env.f) n (env.v 0) then some (0, [lo + st, st / 2]) else some (0, [lo, st / 2])) else some (1, [lo]) := by
  show (ctR n).ev (env.upd 2 [lo, st]) = _
  simp only [ctR, upS, hfS, ct_ite, ct_again, ct_exit, sumS_den, den_lit, den_var, den_ite, den_cmp, den_cmpB, den_tst, den_tstF, den_negT, den_negF, den_andT, den_andF, lssT, leqT, gtrT, geqT, eqlT, neqT, lssF, leqF, gtrF, geqF, eqlF, neqF, den_app, den_nilL, den_consL, den_add, den_sub, den_mul, den_tdiv, den_tmod, den_mx, den_mn, den_blit, den_bin, binI, lvv0, lvv2, lvv3, lvvf]
  by_cases hst : 0 < st
  · rw [if_pos (show st > 0 from hst), if_pos hst, Int.tdiv_eq_ediv_of_nonneg h0]
    by_cases hm : lo + st ≤ 68719476736
    · rw [if_pos hm]
      have := LV_iff (x := lo + st) hr.1.1 hr.nn hm
      by_cases hp : lo + st ≤ LV (mOf env.f) n (env.v 0)
      · rw [if_pos (this.2 hp), if_pos ⟨hm, hp⟩]
      · rw [if_neg (fun h => hp (this.1 h)), if_neg (fun h => hp h.2)]
    · rw [if_neg hm, if_neg (fun h => hm h.1)]
  · rw [if_neg (show ¬ st > 0 from hst), if_neg hst]
theorem R_end {env : Env} {n : Nat} (hr : Rg env n) {lo : Int} (h : LV (mOf env.f) n (env.v 0) = lo) (h1 : 0 ≤ lo ∧ lo ≤ 68719476736) : Runs env (loopR n) [lo, 0] 0 [LV (mOf env.f) n (env.v 0)] := by
  have hev := R_ev (lo := lo) hr (show (0 : Int) ≤ 0 by decide)
  rw [if_neg (by decide)] at hev
  rw [h]
  exact .exit (headR.2 ⟨h1, by decide, hr⟩) hev
theorem R_runs {env : Env} {n : Nat} (hr : Rg env n) : ∀ (k : Nat) {lo : Int}, k ≤ 36 → 0 ≤ lo → lo ≤ LV (mOf env.f) n (env.v 0) → LV (mOf env.f) n (env.v 0) < lo + 2 * 2 ^ k → Runs env (loopR n) [lo, 2 ^ k] 0 [LV (mOf env.f) n (env.v 0)]
  | k, lo, hk, h0, h1, h2 => by
      obtain ⟨l1, _, _⟩ := LV_is (t := env.v 0) hr.1.1 hr.nn
      have hp : (1 : Int) ≤ 2 ^ k := by
        have := Int.pow_pos (show (0 : Int) < 2 by decide) (m := k)
        omega
      have hM : (2 : Int) ^ k ≤ 68719476736 := by
        have : (2 : Nat) ^ k ≤ 2 ^ 36 := Nat.pow_le_pow_right (by decide) hk
        have e : ((2 ^ k : Nat) : Int) = (2 : Int) ^ k := by push_cast; rfl
        rw [← e]
        have e2 : (2 : Nat) ^ 36 = 68719476736 := by decide
        omega
      have hh : HeadOK env (loopR n) [lo, 2 ^ k] := headR.2 ⟨by omega, by omega, hr⟩
      have hev := R_ev (lo := lo) hr (show (0 : Int) ≤ 2 ^ k by omega)
      rw [if_pos (by omega)] at hev
      cases k with
      | zero =>
        simp only [Int.pow_zero] at *
        rw [show (1 : Int) / 2 = 0 by decide] at hev
        by_cases hc : lo + 1 ≤ 68719476736 ∧ lo + 1 ≤ LV (mOf env.f) n (env.v 0)
        · rw [if_pos hc] at hev
          exact .again hh hev (R_end hr (by omega) (by omega))
        · rw [if_neg hc] at hev
          exact .again hh hev (R_end hr (by omega) (by omega))
      | succ k =>
        have e : (2 : Int) ^ (k + 1) = 2 * 2 ^ k := by rw [Int.pow_succ, Int.mul_comm]
        rw [e] at hev hh hp hM h2 ⊢
        rw [show (2 * 2 ^ k : Int) / 2 = 2 ^ k by omega] at hev
        by_cases hc : lo + 2 * 2 ^ k ≤ 68719476736 ∧ lo + 2 * 2 ^ k ≤ LV (mOf env.f) n (env.v 0)
        · rw [if_pos hc] at hev
          exact .again hh hev (R_runs hr k (by omega) (by omega) (by omega) (by omega))
        · rw [if_neg hc] at hev
          exact .again hh hev (R_runs hr k (by omega) h0 h1 (by omega))
theorem wrap_u64 {x : Int} (h0 : 0 ≤ x) (h1 : x ≤ 68719476736) : IntKind.u64.wrap x = x := by
  simp only [IntKind.wrap, IntKind.bits, IntKind.signed]
  simp
  omega
theorem post_ok {env : Env} (h : GoodL env.f) {n : Nat} (hr : Rg env n) {a b : Int} :
    (∀ x, x ∈ postS n → x.den (env.upd 2 [a, b]) = true) ∧ ∀ e lo hi, (e, lo, hi) ∈ prS n → lo ≤ e.den (env.upd 2 [a, b]) ∧ e.den (env.upd 2 [a, b]) ≤ hi := by
  obtain ⟨l1, l2, _⟩ := LV_is (t := env.v 0) hr.1.1 hr.nn
  have l3 := pour_nn (m := mOf env.f) (n := n) l1.1 hr.nn
  have e1 : (lvS n (.var 2) (.var 3)).den (env.upd 2 [a, b]) = LV (mOf env.f) n (env.v 0) := by
    simp only [lvS, exS, den_lit, den_var, den_ite, den_cmp, den_cmpB, den_tst, den_tstF, den_negT, den_negF, den_andT, den_andF, lssT, leqT, gtrT, geqT, eqlT, neqT, lssF, leqF, gtrF, geqF, eqlF, neqF, den_app, den_nilL, den_consL, den_add, den_sub, den_mul, den_tdiv, den_tmod, den_mx, den_mn, den_blit, den_bin, binI, lvv0, lvv2, lvv3, lvvf, h.lv, Int.toNat_natCast]
  have e2 : (rsS n).den (env.upd 2 [a, b]) = env.v 0 - pour (mOf env.f) (LV (mOf env.f) n (env.v 0)) n := by
    show IntKind.u64.wrap ((E.app 22 (exS n)).den _) = _
    simp only [exS, den_lit, den_var, den_ite, den_cmp, den_cmpB, den_tst, den_tstF, den_negT, den_negF, den_andT, den_andF, lssT, leqT, gtrT, geqT, eqlT, neqT, lssF, leqF, gtrF, geqF, eqlF, neqF, den_app, den_nilL, den_consL, den_add, den_sub, den_mul, den_tdiv, den_tmod, den_mx, den_mn, den_blit, den_bin, binI, lvv0, lvv2, lvv3, lvvf, h.rest, Int.toNat_natCast]
    exact wrap_u64 (by omega) (by have := hr.1.2; omega)
  refine ⟨fun x hm => ?_, fun e lo hi hm => ?_⟩
  · simp only [postS, List.mem_singleton] at hm
    subst hm
    simp only [den_lit, den_var, den_ite, den_cmp, den_cmpB, den_tst, den_tstF, den_negT, den_negF, den_andT, den_andF, lssT, leqT, gtrT, geqT, eqlT, neqT, lssF, leqF, gtrF, geqF, eqlF, neqF, den_app, den_nilL, den_consL, den_add, den_sub, den_mul, den_tdiv, den_tmod, den_mx, den_mn, den_blit, den_bin, binI, e1, e2, sumS_den, lvv0, lvvf]
  · simp only [prS, List.mem_cons, List.not_mem_nil, or_false] at hm
    rcases hm with hm | hm <;> cases hm
    · rw [e1]; exact l1
    · rw [e2]; have := hr.1.2; omega
theorem P_ok {env : Env} (h : GoodL env.f) (n : Nat) : LoopOK env (loopP n) := by
  intro xs hl hh hp
  obtain ⟨lo, hi, rfl⟩ := len2 hl
  obtain ⟨h1, h2, hr, h3⟩ := headP.1 hh
  have p1 := hp (.cmp .eql (.var 2) (.lit 0)) (by simp [loopP, preS])
  have p2 := hp (.cmp .eql (.var 3) (.lit 68719476736)) (by simp [loopP, preS])
  rw [show (loopP n).base = 2 from rfl] at p1 p2
  simp only [den_lit, den_var, den_ite, den_cmp, den_cmpB, den_tst, den_tstF, den_negT, den_negF, den_andT, den_andF, lssT, leqT, gtrT, geqT, eqlT, neqT, lssF, leqF, gtrF, geqF, eqlF, neqF, den_app, den_nilL, den_consL, den_add, den_sub, den_mul, den_tdiv, den_tmod, den_mx, den_mn, den_blit, den_bin, binI, lvv2, lvv3] at p1 p2
  obtain ⟨l1, _, _⟩ := LV_is (t := env.v 0) hr.1.1 hr.nn
  have pr := post_ok h hr (a := lo) (b := hi)
  have eA : ∀ k, env.f k ([lo, hi] ++ denL env (exS n)) = env.f k [lo, hi, env.v 0, (n : Int)] := fun k => by simp only [exS, den_lit, den_var, den_ite, den_cmp, den_cmpB, den_tst, den_tstF, den_negT, den_negF, den_andT, den_andF, lssT, leqT, gtrT, geqT, eqlT, neqT, lssF, leqF, gtrF, geqF, eqlF, neqF, den_app, den_nilL, den_consL, den_add, den_sub, den_mul, den_tdiv, den_tmod, den_mx, den_mn, den_blit, den_bin, binI]; rfl
  refine ⟨0, [LV (mOf env.f) n (env.v 0)], _, P_runs hr _ (Nat.le_refl _) h1.1 (by omega) (by omega) h2.2, rfl, ?_, fun i hi' => ?_, pr.1, pr.2⟩
  · show env.f 20 ([lo, hi] ++ denL env (exS n)) = 0
    rw [eA]; exact h.exit ..
  · obtain rfl : i = 0 := by
      have : i < 1 := hi'
      omega
    show env.f 21 ([lo, hi] ++ denL env (exS n)) = _
    rw [eA, h.lv, Int.toNat_natCast]
    rfl
theorem R_ok {env : Env} (h : GoodL env.f) (n : Nat) : LoopOK env (loopR n) := by
  intro xs hl hh hp
  obtain ⟨lo, hi, rfl⟩ := len2 hl
  obtain ⟨h1, h2, hr⟩ := headR.1 hh
  have p1 := hp (.cmp .eql (.var 2) (.lit 0)) (by simp [loopR, preS])
  have p2 := hp (.cmp .eql (.var 3) (.lit 68719476736)) (by simp [loopR, preS])
  rw [show (loopR n).base = 2 from rfl] at p1 p2
  simp only [den_lit, den_var, den_ite, den_cmp, den_cmpB, den_tst, den_tstF, den_negT, den_negF, den_andT, den_andF, lssT, leqT, gtrT, geqT, eqlT, neqT, lssF, leqF, gtrF, geqF, eqlF, neqF, den_app, den_nilL, den_consL, den_add, den_sub, den_mul, den_tdiv, den_tmod, den_mx, den_mn, den_blit, den_bin, binI, lvv2, lvv3] at p1 p2
  subst p1 p2
  obtain ⟨l1, _, _⟩ := LV_is (t := env.v 0) hr.1.1 hr.nn
  have pr := post_ok h hr (a := 0) (b := 68719476736)
  have eA : ∀ k, env.f k ([0, 68719476736] ++ denL env (exS n)) = env.f k [0, 68719476736, env.v 0, (n : Int)] := fun k => by simp only [exS, den_lit, den_var, den_ite, den_cmp, den_cmpB, den_tst, den_tstF, den_negT, den_negF, den_andT, den_andF, lssT, leqT, gtrT, geqT, eqlT, neqT, lssF, leqF, gtrF, geqF, eqlF, neqF, den_app, den_nilL, den_consL, den_add, den_sub, den_mul, den_tdiv, den_tmod, den_mx, den_mn, den_blit, den_bin, binI]; rfl
  have rr := R_runs hr 36 (lo := 0) (by decide) (by decide) l1.1 (by rw [show (2 : Int) ^ 36 = 68719476736 by decide]; omega)
  rw [show (2 : Int) ^ 36 = 68719476736 by decide] at rr
  refine ⟨0, [LV (mOf env.f) n (env.v 0)], _, rr, rfl, ?_, fun i hi' => ?_, pr.1, pr.2⟩
  · show env.f 20 ([0, 68719476736] ++ denL env (exS n)) = 0
    rw [eA]; exact h.exit ..
  · obtain rfl : i = 0 := by
      have : i < 1 := hi'
      omega
    show env.f 21 ([0, 68719476736] ++ denL env (exS n)) = _
    rw [eA, h.lv, Int.toNat_natCast]
    rfl
theorem XS_ok {fn : Nat → List Int → Int} (h : GoodL fn) (n : Nat) : ParOK Try.prog fn (XS n) :=
  ⟨fun env _ => noBook_ok _ _, (by
    intro env he f i g hg tm s L hL
    have hf : GoodL env.f := by rw [he]; exact h
    simp only [XS, loopsS] at hg
    split at hg
    · cases hg; cases hL; exact P_ok hf n
    · split at hg
      · cases hg; cases hL; exact R_ok hf n
      · cases hg), h.rows, fun env _ => noGen_ok _ _⟩
end Go.Proofs.Ytpedboeggmffnaa
