/- Tests and expressions as plain propositions and numbers. -/
import Derived.Test.YtjgkcgkhcdeadaaSw23
namespace Go.SX
open Go Go.RowKit
set_option linter.unusedVariables false
set_option linter.unusedSimpArgs false

theorem den_ite (env : Env) (c a b : E) : (E.ite c a b).den env = if c.den env = 0 then b.den env else a.den env := by
  simp only [E.den]
  by_cases h : c.den env = 0
  · simp [h]
  · rw [if_neg h, beq_eq_false_iff_ne.2 h]; rfl
theorem den_cmp (env : Env) (o : BinOp) (a b : E) : (E.cmp o a b).den env = if cmpI o (a.den env) (b.den env) = true then 1 else 0 := by
  simp only [E.den]
  cases cmpI o (a.den env) (b.den env) <;> rfl
theorem den_tst (env : Env) (e : E) : ((BE.tst e).den env = true) = ¬ (e.den env = 0) := by simp [BE.den]
theorem den_tstF (env : Env) (e : E) : ((BE.tst e).den env = false) = (e.den env = 0) := by simp [BE.den]
theorem den_cmpB (env : Env) (o : BinOp) (a b : E) : (BE.cmp o a b).den env = cmpI o (a.den env) (b.den env) := rfl
theorem den_negT (env : Env) (b : BE) : ((BE.neg b).den env = true) = (b.den env = false) := by simp [BE.den]
theorem den_negF (env : Env) (b : BE) : ((BE.neg b).den env = false) = (b.den env = true) := by simp [BE.den]
theorem den_andT (env : Env) (a b : BE) : ((BE.and a b).den env = true) = (a.den env = true ∧ b.den env = true) := by simp [BE.den]
theorem den_andF (env : Env) (a b : BE) : ((BE.and a b).den env = false) = (a.den env = false ∨ b.den env = false) := by
  simp only [BE.den, eq_iff_iff]
  cases a.den env <;> simp
theorem lssT (x y : Int) : (cmpI .lss x y = true) = (x < y) := by simp [cmpI]
theorem leqT (x y : Int) : (cmpI .leq x y = true) = (x ≤ y) := by simp [cmpI]
theorem gtrT (x y : Int) : (cmpI .gtr x y = true) = (y < x) := by simp [cmpI]
theorem geqT (x y : Int) : (cmpI .geq x y = true) = (y ≤ x) := by simp [cmpI]
theorem eqlT (x y : Int) : (cmpI .eql x y = true) = (x = y) := by simp [cmpI]
theorem neqT (x y : Int) : (cmpI .neq x y = true) = (x ≠ y) := by simp [cmpI]
theorem lssF (x y : Int) : (cmpI .lss x y = false) = (y ≤ x) := by simp [cmpI]
theorem leqF (x y : Int) : (cmpI .leq x y = false) = (y < x) := by simp [cmpI]
theorem gtrF (x y : Int) : (cmpI .gtr x y = false) = (x ≤ y) := by simp [cmpI]
theorem geqF (x y : Int) : (cmpI .geq x y = false) = (x < y) := by simp [cmpI]
theorem eqlF (x y : Int) : (cmpI .eql x y = false) = (x ≠ y) := by simp [cmpI]
theorem neqF (x y : Int) : (cmpI .neq x y = false) = (x = y) := by simp [cmpI]
theorem den_lit (env : Env) (n : Int) : (E.lit n).den env = n := rfl
theorem den_var (env : Env) (i : Nat) : (E.var i).den env = env.v i := rfl
theorem den_app (env : Env) (f : Nat) (l : List E) : (E.app f l).den env = env.f f (denL env l) := rfl
theorem den_nilL (env : Env) : denL env [] = [] := rfl
theorem den_consL (env : Env) (e : E) (l : List E) : denL env (e :: l) = e.den env :: denL env l := rfl
theorem den_add (env : Env) (a b : E) : (E.op .add a b).den env = a.den env + b.den env := rfl
theorem den_sub (env : Env) (a b : E) : (E.op .sub a b).den env = a.den env - b.den env := rfl
theorem den_mul (env : Env) (a b : E) : (E.op .mul a b).den env = a.den env * b.den env := rfl
theorem den_tdiv (env : Env) (a b : E) : (E.op .tdiv a b).den env = (a.den env).tdiv (b.den env) := rfl
theorem den_tmod (env : Env) (a b : E) : (E.op .tmod a b).den env = (a.den env).tmod (b.den env) := rfl
theorem den_mx (env : Env) (a b : E) : (E.op .mx a b).den env = max (a.den env) (b.den env) := by
  simp only [E.den, O2.ev]; split <;> omega
theorem den_mn (env : Env) (a b : E) : (E.op .mn a b).den env = min (a.den env) (b.den env) := by
  simp only [E.den, O2.ev]; split <;> omega
theorem den_bin (env : Env) (o : BinOp) (k : IntKind) (a b : E) : (E.bin o k a b).den env = binI o k (a.den env) (b.den env) := rfl
theorem env_v (xs : List Int) (f : Nat → List Int → Int) (i : Nat) : (envOf xs f).v i = xs.getD i 0 := rfl
theorem env_f (xs : List Int) (f : Nat → List Int → Int) : (envOf xs f).f = f := rfl
theorem wrap_i64 {n : Int} (h : -9223372036854775808 ≤ n) (h' : n ≤ 9223372036854775807) : IntKind.i64.wrap n = n :=
  wrap_id (k := .i64) (by simp [IntKind.min, IntKind.signed, IntKind.bits]; exact h) (by simp [IntKind.max, IntKind.signed, IntKind.bits]; exact h')
theorem wf_rng {k : IntKind} {x : Int} (h : (Lit.int k x).wf = true) : k.min ≤ x ∧ x ≤ k.max := by simpa [Lit.wf] using h

end Go.SX
