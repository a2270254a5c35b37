/- Tariffs: what is valid, the band at a time, the loops that find it. -/
import Derived.Test.YtlbmeamjgdgbmaaSw42
import Derived.Test.YtlbmeamjgdgbmaaChecked
namespace Go.Proofs.Ytlbmeamjgdgbmaa
open Go Go.SX Go.RowKit
set_option linter.unusedVariables false
set_option linter.unusedSimpArgs false
set_option maxRecDepth 100000
set_option maxHeartbeats 4000000
def bet (e : E) (lo hi : Int) : List BE := [.cmp .geq e (.lit lo), .cmp .leq e (.lit hi)]
abbrev fl : PSh := .flat false [some .i64]
def shT : List PSh := [fl, .row [some .i64, some .i64, some .i64], fl, fl, fl, fl]
def gT : Grp := [some 3, none, none, none]
def no1 : CT := .fail
def bandsR : List (Int × Int) := []
def loopC (ct : CT) : LC := ⟨6, 2, [(31, .int .i64 (.var 6)), (3, .int .i64 (.var 7))], [], [0, 1, 2, 28, 29, 30], [(0, 48), (0, 1099511627776)], bet (.var 0) 1 1099511627776 ++ bet (.var 1) 1 48,
  [⟨.exit 0, 0, [], [], []⟩, ⟨.ret, 0, [(2, .bool (.lit false))], [], []⟩], ct, [.cmp .eql (.var 6) (.lit 0), .cmp .eql (.var 7) (.lit 0)], 20, [], [], [.var 0, .var 1], []⟩
def loopRC (ct : CT) : LC := ⟨6, 1, [(3, .int .i64 (.var 6))], [], [0, 1], [(0, 48)], bet (.var 0) 1 1099511627776 ++ bet (.var 1) 1 48,
  [⟨.exit 0, 0, [], [], []⟩, ⟨.ret, 0, [(2, .int .i64 (.lit 2))], [], []⟩], ct, [.cmp .eql (.var 6) (.lit 0)], 30, [], [], [.var 0, .var 1], []⟩
def lo64 : Int := -9223372036854775808
def hi64 : Int := 9223372036854775807
def exB : List E := [.var 0, .var 1, .var 3]
def ctCv : List BE := bet (.var 0) 1 1099511627776 ++ bet (.var 1) 1 48
/-- the tariff has passed -/
def okB : BE := .tst (.app 61 [.var 0, .var 1, .var 2])
def cE (j : Nat) : E := .app (41 + j) ([.var 6, .var 7, .var 8, .var 9] ++ exB)
def loopB (b : Nat) (ct : CT) : LC := ⟨6, 4, [(16, .int .i64 (.var 6))], [(b, [.int .i64 (.var 7), .int .i64 (.var 8), .int .i64 (.var 9)])], [0, 1, 2, 4, 5, 14, 15], [(0, 47), (lo64, hi64), (0, 1048576), (0, 1048576)], ctCv ++ ([.cmp .gtr (.var 1) (.lit 1), okB] : List BE),
  [⟨.exit 0, 3, [], [(b, [.int .i64 (.var 6), .int .i64 (.var 7), .int .i64 (.var 8)])], []⟩], ct,
  [.cmp .eql (.var 6) (.lit 0), .cmp .eql (.var 7) (.app 5000 [.lit 0]), .cmp .eql (.var 8) (.app 5001 [.lit 0]), .cmp .eql (.var 9) (.app 5002 [.lit 0])], 40, [], [(cE 1, 0, 1048576), (cE 2, 0, 1048576)], exB, []⟩
def kE : E := .app 51 ([.var 6, .var 7] ++ exB)
/-- the reference's search for a band -/
def loopRB (ct : CT) : LC := ⟨6, 2, [(5, .int .i64 (.var 6)), (6, .int .i64 (.var 7))], [], [0, 1, 2, 4], [(0, 47), (0, 48)], ctCv ++ ([.cmp .lss (.var 6) (.var 1)] : List BE),
  [⟨.exit 0, 1, [(5, .int .i64 (.var 6))], [], []⟩], ct,
  [.cmp .eql (.var 6) (.lit 0), .cmp .eql (.var 7) (.lit 0)], 50, [.cmp .lss kE (.var 1)], [(kE, 0, 47)], exB, []⟩
def blkAt (tm : T SV) (t : Nat) : Option Nat := match tm.get t with | some (.ptr (some (.c b 0))) => some b | _ => none
def loopsT (a b c d : CT) : LBook := fun f i =>
  if f == 32 && i == 5 then some (fun tm s => match tm.get 30 with | some (.int _ (.var 1)) => some (loopC a) | _ => none)
  else if f == 14 && i == 4 then some (fun tm s => some (loopRC b))
  else if f == 34 && i == 3 then some (fun tm s => match tm.get 14 with | some (.slice (some (.s ..)) _ _) => (blkAt tm 5).map fun b => loopB b c | _ => none)
  else if f == 36 && i == 3 then some (fun tm s => some (loopRB d)) else none
def XT (a b c d : CT) : Par := { noPar with loops := loopsT a b c d }
def ctC : CT := (.ite (.cmp .lss (.var 6) (.var 1)) (.ite (.cmp .lss (.app 5000 [(.var 6)]) (.var 7)) (.exit 1 []) (.ite (.cmp .eql (.var 6) (.lit 0)) (.ite (.cmp .gtr (.app 5000 [(.var 6)]) (.lit 0)) (.exit 1 []) (.ite (.cmp .leq (.lit 0) (.app 5001 [(.var 6)])) (.ite (.neg (.cmp .leq (.app 5001 [(.var 6)]) (.lit 1048576))) (.exit 1 []) (.ite (.cmp .leq (.lit 0) (.app 5002 [(.var 6)])) (.ite (.neg (.cmp .leq (.app 5002 [(.var 6)]) (.lit 1048576))) (.exit 1 []) (.again [(.op .add (.var 6) (.lit 1)), (.op .add (.app 5000 [(.var 6)]) (.lit 1))])) (.exit 1 []))) (.exit 1 []))) (.ite (.cmp .geq (.app 5000 [(.var 6)]) (.var 0)) (.exit 1 []) (.ite (.cmp .leq (.lit 0) (.app 5001 [(.var 6)])) (.ite (.neg (.cmp .leq (.app 5001 [(.var 6)]) (.lit 1048576))) (.exit 1 []) (.ite (.cmp .leq (.lit 0) (.app 5002 [(.var 6)])) (.ite (.neg (.cmp .leq (.app 5002 [(.var 6)]) (.lit 1048576))) (.exit 1 []) (.again [(.op .add (.var 6) (.lit 1)), (.op .add (.app 5000 [(.var 6)]) (.lit 1))])) (.exit 1 []))) (.exit 1 []))))) (.exit 0 []))
def ctRC : CT := (.ite (.cmp .lss (.var 6) (.var 1)) (.ite (.cmp .geq (.app 5000 [(.var 6)]) (.lit 0)) (.ite (.neg (.cmp .leq (.app 5000 [(.var 6)]) (.op .sub (.var 0) (.lit 1)))) (.exit 1 []) (.ite (.cmp .gtr (.var 6) (.lit 0)) (.ite (.cmp .leq (.app 5000 [(.var 6)]) (.app 5000 [(.op .sub (.var 6) (.lit 1))])) (.exit 1 []) (.ite (.cmp .geq (.app 5001 [(.var 6)]) (.lit 0)) (.ite (.neg (.cmp .leq (.app 5001 [(.var 6)]) (.lit 1048576))) (.exit 1 []) (.ite (.cmp .geq (.app 5002 [(.var 6)]) (.lit 0)) (.ite (.neg (.cmp .leq (.app 5002 [(.var 6)]) (.lit 1048576))) (.exit 1 []) (.again [(.op .add (.var 6) (.lit 1))])) (.exit 1 []))) (.exit 1 []))) (.ite (.cmp .geq (.app 5001 [(.var 6)]) (.lit 0)) (.ite (.neg (.cmp .leq (.app 5001 [(.var 6)]) (.lit 1048576))) (.exit 1 []) (.ite (.cmp .geq (.app 5002 [(.var 6)]) (.lit 0)) (.ite (.neg (.cmp .leq (.app 5002 [(.var 6)]) (.lit 1048576))) (.exit 1 []) (.again [(.op .add (.var 6) (.lit 1))])) (.exit 1 []))) (.exit 1 [])))) (.exit 1 [])) (.exit 0 []))
def ctB : CT := (.ite (.cmp .lss (.var 6) (.op .sub (.var 1) (.lit 1))) (.ite (.cmp .leq (.app 5000 [(.op .add (.lit 1) (.var 6))]) (.op .tmod (.var 3) (.var 0))) (.again [(.op .add (.var 6) (.lit 1)), (.app 5000 [(.op .add (.lit 1) (.var 6))]), (.app 5001 [(.op .add (.lit 1) (.var 6))]), (.app 5002 [(.op .add (.lit 1) (.var 6))])]) (.again [(.op .add (.var 6) (.lit 1)), (.var 7), (.var 8), (.var 9)])) (.exit 0 [(.var 7), (.var 8), (.var 9)]))
def ctRB : CT := (.ite (.cmp .lss (.var 7) (.var 1)) (.ite (.cmp .leq (.app 5000 [(.var 7)]) (.op .tmod (.var 3) (.var 0))) (.again [(.var 7), (.op .add (.var 7) (.lit 1))]) (.again [(.var 6), (.op .add (.var 7) (.lit 1))])) (.exit 0 [(.var 6)]))
def X0 : Par := XT ctC ctRC ctB ctRB
def shTar : List (Bool × PSh) := [(true, fl), (true, .row [some .i64, some .i64, some .i64]), (true, fl)]
def isWC : WC := ⟨32, shTar, [.num (.bool (.lit true))], 61, [0, 1, 2], [], [], []⟩
def rfWC : WC := ⟨14, shTar, [.num (.int .i64 (.lit 0))], 60, [0, 1, 2], [], [], [(.app 60 [.var 0, .var 1, .var 2], 0, 2)]⟩
def gC : Grp := [some 3, none, none, none, none]
def shC : List PSh := [fl, .row [some .i64, some .i64, some .i64], fl, .flat false [some .u32], .flat false [some .u32], .flat false [some .u32], .flat false [some .u8]]
def wLt (v : Bool) : List (BE × Bool) := [(.cmp .lss (.var 1) (.lit 2), v)]
def wkFC : FC := ⟨8, [], .bool (.lit true), [], [], []⟩
def shTar4 : List (Bool × PSh) := shTar ++ [(true, fl)]
def b3 : OC := .num (.agg [.int .i64 (.lit 0), .int .i64 (.lit 0), .int .i64 (.lit 0)])
def bRn : Rngs := [(.app 72 [.var 0, .var 1, .var 3], 0, 1048576), (.app 73 [.var 0, .var 1, .var 3], 0, 1048576)]
def bdWC : WC := ⟨34, shTar4, [b3], 71, [0, 1, 3], [okB], [], bRn⟩
def rbWC : WC := ⟨36, shTar4, [b3], 71, [0, 1, 3], [okB], [], bRn⟩
def gB : Grp := [some 3, none]
def XW : Par := wkFC.par (isWC.parG [some 3] (rfWC.parG [some 3] (bdWC.parG gB (rbWC.parG gB noPar))))
theorem mixF : Try.prog.follows .mixedOrders = true := by kernel_rfl
abbrev Fn := Nat → List Int → Int
def okAt (f : Fn) (day : Int) (i : Nat) : Prop := 0 ≤ f 5000 [(i : Int)] ∧ f 5000 [(i : Int)] < day ∧ (0 < i → f 5000 [(i : Int) - 1] < f 5000 [(i : Int)]) ∧ 0 ≤ f 5001 [(i : Int)] ∧ f 5001 [(i : Int)] ≤ 1048576 ∧ 0 ≤ f 5002 [(i : Int)] ∧ f 5002 [(i : Int)] ≤ 1048576
def allOk (f : Fn) (day n : Int) : Prop := ∀ j : Nat, (j : Int) < n → okAt f day j
def tarOk (f : Fn) (day n fee : Int) : Prop := (1 ≤ day ∧ day ≤ 1099511627776) ∧ (0 ≤ fee ∧ fee ≤ 1048576) ∧ (1 ≤ n ∧ n ≤ 48) ∧ f 5000 [0] = 0 ∧ allOk f day n
/-- the last one of some bands that begins at a moment of the day or before -/
def lastOf (f : Fn) (m : Int) : Nat → Nat
  | 0 => 0
  | n + 1 => if f 5000 [(n : Int)] ≤ m then n else lastOf f m n
theorem lastOf_lt (f : Fn) (m : Int) : ∀ n, 0 < n → lastOf f m n < n
  | 0, h => absurd h (Nat.lt_irrefl _)
  | n + 1, _ => by
      unfold lastOf
      split
      · omega
      · cases n with
        | zero => exact Nat.zero_lt_one
        | succ n => have := lastOf_lt f m (n + 1) (by omega); omega
theorem lastOf_le (f : Fn) (m : Int) {n k : Nat} (h : n ≤ k) (hk : 0 < k) : lastOf f m n < k := by
  cases n with
  | zero => exact hk
  | succ n => have := lastOf_lt f m (n + 1) (by omega); omega
theorem lastOf_one (f : Fn) (m : Int) : lastOf f m 1 = 0 := by unfold lastOf; split <;> rfl
open Classical in
noncomputable def bfn (g : Fn) : Fn := fun k a => match k, a with
  | 20, [i, l, day, n] => if g 5000 [0] = 0 ∧ allOk g day n then 0 else 1
  | 30, [i, day, n] => if allOk g day n then 0 else 1
  | 40, [i, a, b, c, day, n, at'] => 0
  | 41, [i, a, b, c, day, n, at'] => g 5000 [(lastOf g (at'.tmod day) n.toNat : Int)]
  | 42, [i, a, b, c, day, n, at'] => g 5001 [(lastOf g (at'.tmod day) n.toNat : Int)]
  | 43, [i, a, b, c, day, n, at'] => g 5002 [(lastOf g (at'.tmod day) n.toNat : Int)]
  | 50, [k, i, day, n, at'] => 0
  | 51, [k, i, day, n, at'] => (lastOf g (at'.tmod day) n.toNat : Int)
  | 60, [day, n, fee] => if tarOk g day n fee then 0 else 2
  | 61, [day, n, fee] => if tarOk g day n fee then 1 else 0
  | 71, [day, n, at'] => g 5000 [(lastOf g (at'.tmod day) n.toNat : Int)]
  | 72, [day, n, at'] => g 5001 [(lastOf g (at'.tmod day) n.toNat : Int)]
  | 73, [day, n, at'] => g 5002 [(lastOf g (at'.tmod day) n.toNat : Int)]
  | k, a => g k a
open Classical in
structure Good (f : Fn) : Prop where
  rows : RowFn f
  h20 : ∀ i l day n, f 20 [i, l, day, n] = if f 5000 [0] = 0 ∧ allOk f day n then 0 else 1
  h30 : ∀ i day n, f 30 [i, day, n] = if allOk f day n then 0 else 1
  h40 : ∀ i a b c day n t, f 40 [i, a, b, c, day, n, t] = 0
  h41 : ∀ i a b c day n t, f 41 [i, a, b, c, day, n, t] = f 5000 [(lastOf f (t.tmod day) n.toNat : Int)]
  h42 : ∀ i a b c day n t, f 42 [i, a, b, c, day, n, t] = f 5001 [(lastOf f (t.tmod day) n.toNat : Int)]
  h43 : ∀ i a b c day n t, f 43 [i, a, b, c, day, n, t] = f 5002 [(lastOf f (t.tmod day) n.toNat : Int)]
  h50 : ∀ k i day n t, f 50 [k, i, day, n, t] = 0
  h51 : ∀ k i day n t, f 51 [k, i, day, n, t] = (lastOf f (t.tmod day) n.toNat : Int)
  h60 : ∀ day n fee, f 60 [day, n, fee] = if tarOk f day n fee then 0 else 2
  h61 : ∀ day n fee, f 61 [day, n, fee] = if tarOk f day n fee then 1 else 0
  h71 : ∀ day n t, f 71 [day, n, t] = f 5000 [(lastOf f (t.tmod day) n.toNat : Int)]
  h72 : ∀ day n t, f 72 [day, n, t] = f 5001 [(lastOf f (t.tmod day) n.toNat : Int)]
  h73 : ∀ day n t, f 73 [day, n, t] = f 5002 [(lastOf f (t.tmod day) n.toNat : Int)]
theorem bfn_high (g : Fn) (k : Nat) (a : List Int) (h : 1000 ≤ k) : bfn g k a = g k a := by
  unfold bfn
  split <;> first | omega | rfl
theorem good_of (g : Fn) (hg : RowFn g) : Good (bfn g) := by
  have e : ∀ k a, 1000 ≤ k → bfn g k a = g k a := fun k a h => bfn_high g k a h
  have e0 : ∀ a, bfn g 5000 a = g 5000 a := fun a => e _ _ (by decide)
  have e1 : ∀ a, bfn g 5001 a = g 5001 a := fun a => e _ _ (by decide)
  have e2 : ∀ a, bfn g 5002 a = g 5002 a := fun a => e _ _ (by decide)
  have eok : ∀ day i, okAt (bfn g) day i = okAt g day i := fun day i => by unfold okAt; simp only [e0, e1, e2]
  have eall : ∀ day n, allOk (bfn g) day n = allOk g day n := fun day n => by unfold allOk; simp only [eok]
  have etar : ∀ day n fee, tarOk (bfn g) day n fee = tarOk g day n fee := fun day n fee => by unfold tarOk; simp only [eall, e0]
  have elast : ∀ m n, lastOf (bfn g) m n = lastOf g m n := fun m n => by
    induction n with
    | zero => rfl
    | succ n ih => unfold lastOf; rw [ih, e0]
  exact ⟨fun k a h1 h2 => by rw [e k a h1]; exact hg k a h1 h2, fun i l day n => by rw [e0, eall]; rfl, fun i day n => by rw [eall]; rfl, fun _ _ _ _ _ _ _ => rfl, fun i a b c day n t => by rw [elast, e0]; rfl,
    fun i a b c day n t => by rw [elast, e1]; rfl, fun i a b c day n t => by rw [elast, e2]; rfl, fun _ _ _ _ _ => rfl, fun k i day n t => by rw [elast]; rfl, fun day n fee => by rw [etar]; rfl, fun day n fee => by rw [etar]; rfl,
    fun day n t => by rw [elast, e0]; rfl, fun day n t => by rw [elast, e1]; rfl, fun day n t => by rw [elast, e2]; rfl⟩
theorem betP {env : Env} {e : E} {lo hi : Int} : factsP env (bet e lo hi) ↔ lo ≤ e.den env ∧ e.den env ≤ hi := by
  simp only [bet, factsP, den_lit, den_var, den_ite, den_cmp, den_cmpB, den_tst, den_tstF, den_negT, den_negF, den_andT, den_andF, lssT, leqT, gtrT, geqT, eqlT, neqT, lssF, leqF, gtrF, geqF, eqlF, neqF, den_app, den_nilL, den_consL, den_add, den_sub, den_mul, den_tdiv, den_tmod, den_mx, den_mn, den_blit, den_bin, binI, and_true]
theorem facts_app {env : Env} : ∀ {a b : List BE}, factsP env (a ++ b) ↔ factsP env a ∧ factsP env b
  | [], b => by simp [factsP]
  | x :: a, b => by simp only [List.cons_append, factsP, facts_app, and_assoc]
theorem ctCvP {env : Env} : factsP env ctCv ↔ (1 ≤ env.v 0 ∧ env.v 0 ≤ 1099511627776) ∧ 1 ≤ env.v 1 ∧ env.v 1 ≤ 48 := by
  unfold ctCv
  rw [facts_app, betP, betP]; rfl
theorem ups {env : Env} (l : List Int) {j : Nat} (hj : j < 6) : (env.upd 6 l).v j = env.v j := if_pos hj
/-! ### the program's check -/
def P0 (f : Fn) (day : Int) (j : Nat) : Prop := okAt f day j ∧ (j = 0 → f 5000 [0] = 0)
theorem P0_all {f : Fn} {day n : Int} (hn : 1 ≤ n) : (∀ j : Nat, (j : Int) < n → P0 f day j) ↔ f 5000 [0] = 0 ∧ allOk f day n :=
  ⟨fun h => ⟨(h 0 (by omega)).2 rfl, fun j hj => (h j hj).1⟩, fun h j hj => ⟨h.2 j hj, fun _ => h.1⟩⟩
theorem headC {env : Env} {i l : Int} (h0 : 0 ≤ i ∧ i ≤ 48) (h1 : 0 ≤ l ∧ l ≤ 1099511627776) (h2 : 1 ≤ env.v 0 ∧ env.v 0 ≤ 1099511627776) (h3 : 1 ≤ env.v 1 ∧ env.v 1 ≤ 48) : HeadOK env (loopC ctC) [i, l] := by
  rw [headOK_iff]
  exact ⟨⟨h0, h1, trivial⟩, ctCvP.2 ⟨h2, h3⟩⟩
theorem C_runs {env : Env} (h2 : 1 ≤ env.v 0 ∧ env.v 0 ≤ 1099511627776) (h3 : 1 ≤ env.v 1 ∧ env.v 1 ≤ 48) : ∀ (q i : Nat) (l : Int), (env.v 1).toNat - i ≤ q → (i : Int) ≤ env.v 1 → (i = 0 → l = 0) → (0 < i → l = env.f 5000 [(i : Int) - 1] + 1) → (∀ j, j < i → P0 env.f (env.v 0) j) →
    ((∀ j : Nat, (j : Int) < env.v 1 → P0 env.f (env.v 0) j) → Runs env (loopC ctC) [(i : Int), l] 0 []) ∧ (¬ (∀ j : Nat, (j : Int) < env.v 1 → P0 env.f (env.v 0) j) → Runs env (loopC ctC) [(i : Int), l] 1 [])
  | q, i, l, hq, hi, hl0, hl1, hb => by
      have hl : 0 ≤ l ∧ l ≤ 1099511627776 := by
        by_cases hi0 : i = 0
        · rw [hl0 hi0]; decide
        · have := (hb (i - 1) (by omega)).1
          unfold okAt at this
          rw [show ((i - 1 : Nat) : Int) = (i : Int) - 1 by omega] at this
          have := hl1 (by omega)
          omega
      have hh : HeadOK env (loopC ctC) [(i : Int), l] := headC ⟨by omega, by omega⟩ hl h2 h3
      have v6 : (env.upd 6 [(i : Int), l]).v 6 = (i : Int) := rfl
      have v7 : (env.upd 6 [(i : Int), l]).v 7 = l := rfl
      by_cases hlt : (i : Int) < env.v 1
      · by_cases hP : P0 env.f (env.v 0) i
        · have ev : (loopC ctC).ct.ev (env.upd (loopC ctC).base [(i : Int), l]) = some (0, [((i + 1 : Nat) : Int), env.f 5000 [(i : Int)] + 1]) := by
            show ctC.ev (env.upd 6 [(i : Int), l]) = _
            simp only [ctC, ct_ite, ct_again, ct_exit, den_lit, den_var, den_ite, den_cmp, den_cmpB, den_tst, den_tstF, den_negT, den_negF, den_andT, den_andF, lssT, leqT, gtrT, geqT, eqlT, neqT, lssF, leqF, gtrF, geqF, eqlF, neqF, den_app, den_nilL, den_consL, den_add, den_sub, den_mul, den_tdiv, den_tmod, den_mx, den_mn, den_blit, den_bin, binI, upd_f, ups _ (show 0 < 6 by decide), ups _ (show 1 < 6 by decide), v6, v7]
            obtain ⟨hok, hz⟩ := hP
            unfold okAt at hok
            have hz' : i = 0 → env.f 5000 [(i : Int)] = 0 := fun e => by rw [e]; exact hz e
            have : i = 0 ∨ l = env.f 5000 [(i : Int) - 1] + 1 := by
              rcases Nat.eq_zero_or_pos i with e | e
              · exact .inl e
              · exact .inr (hl1 e)
            repeat' split
            all_goals first | rfl | (exfalso; omega)
          cases q with
          | zero => omega
          | succ q =>
            obtain ⟨r1, r2⟩ := C_runs h2 h3 q (i + 1) (env.f 5000 [(i : Int)] + 1) (by omega) (by omega) (fun e => absurd e (by omega)) (fun _ => by rw [show ((i + 1 : Nat) : Int) - 1 = (i : Int) by omega]) (fun j hj => by
              by_cases hji : j = i
              · rw [hji]; exact hP
              · exact hb j (by omega))
            exact ⟨fun e => .again hh ev (r1 e), fun e => .again hh ev (r2 e)⟩
        · have ev : (loopC ctC).ct.ev (env.upd (loopC ctC).base [(i : Int), l]) = some (2, []) := by
            show ctC.ev (env.upd 6 [(i : Int), l]) = _
            simp only [ctC, ct_ite, ct_again, ct_exit, den_lit, den_var, den_ite, den_cmp, den_cmpB, den_tst, den_tstF, den_negT, den_negF, den_andT, den_andF, lssT, leqT, gtrT, geqT, eqlT, neqT, lssF, leqF, gtrF, geqF, eqlF, neqF, den_app, den_nilL, den_consL, den_add, den_sub, den_mul, den_tdiv, den_tmod, den_mx, den_mn, den_blit, den_bin, binI, upd_f, ups _ (show 0 < 6 by decide), ups _ (show 1 < 6 by decide), v6, v7]
            unfold P0 okAt at hP
            have : (i = 0 ∧ l = 0 ∧ env.f 5000 [(i : Int)] = env.f 5000 [0]) ∨ (0 < i ∧ l = env.f 5000 [(i : Int) - 1] + 1) := by
              rcases Nat.eq_zero_or_pos i with e | e
              · exact .inl ⟨e, hl0 e, by rw [e]; rfl⟩
              · exact .inr ⟨e, hl1 e⟩
            have hpr : 0 < i → 0 ≤ env.f 5000 [(i : Int) - 1] := fun e => by
              have := (hb (i - 1) (by omega)).1.1
              rwa [show ((i - 1 : Nat) : Int) = (i : Int) - 1 by omega] at this
            repeat' split
            all_goals first | rfl | (exfalso; refine hP ?_; clear hP hb; refine ⟨⟨?_, ?_, fun _ => ?_, ?_, ?_, ?_, ?_⟩, fun e => ?_⟩ <;> omega)
          exact ⟨fun e => absurd (e i hlt) hP, fun _ => .exit hh ev⟩
      · have ev : (loopC ctC).ct.ev (env.upd (loopC ctC).base [(i : Int), l]) = some (1, []) := by
          show ctC.ev (env.upd 6 [(i : Int), l]) = _
          simp only [ctC, ct_ite, ct_again, ct_exit, den_lit, den_var, den_ite, den_cmp, den_cmpB, den_tst, den_tstF, den_negT, den_negF, den_andT, den_andF, lssT, leqT, gtrT, geqT, eqlT, neqT, lssF, leqF, gtrF, geqF, eqlF, neqF, den_app, den_nilL, den_consL, den_add, den_sub, den_mul, den_tdiv, den_tmod, den_mx, den_mn, den_blit, den_bin, binI, upd_f, ups _ (show 0 < 6 by decide), ups _ (show 1 < 6 by decide), v6, v7]
          rw [if_neg hlt]
        exact ⟨fun _ => .exit hh ev, fun e => absurd (fun j hj => hb j (by omega)) e⟩
open Classical in
theorem C_ok {env : Env} (h : Good env.f) : LoopOK env (loopC ctC) := by
  intro l hl hh hp
  obtain ⟨i, z, rfl⟩ := len2 hl
  rw [headOK_iff] at hh
  obtain ⟨h2, h3⟩ := ctCvP.1 hh.2
  rw [show (loopC ctC).base = 6 from rfl, ups _ (show 0 < 6 by decide)] at h2
  rw [show (loopC ctC).base = 6 from rfl, ups _ (show 1 < 6 by decide)] at h3
  have p1 := hp (.cmp .eql (.var 6) (.lit 0)) (by simp [loopC])
  have p2 := hp (.cmp .eql (.var 7) (.lit 0)) (by simp [loopC])
  rw [show (loopC ctC).base = 6 from rfl] at p1 p2
  simp only [den_cmpB, eqlT, den_var, den_lit] at p1 p2
  have p1' : i = 0 := p1
  have p2' : z = 0 := p2
  subst p1' p2'
  obtain ⟨r1, r2⟩ := C_runs h2 h3 _ 0 0 (Nat.le_refl _) (by omega) (fun _ => rfl) (fun e => absurd e (by omega)) (fun j hj => absurd hj (by omega))
  have eK : env.f (loopC ctC).K ([0, 0] ++ denL env (loopC ctC).ex) = if env.f 5000 [0] = 0 ∧ allOk env.f (env.v 0) (env.v 1) then 0 else 1 := h.h20 ..
  by_cases hf : env.f 5000 [0] = 0 ∧ allOk env.f (env.v 0) (env.v 1)
  · rw [if_pos hf] at eK
    exact ⟨0, [], _, r1 ((P0_all h3.1).2 hf), rfl, eK, fun j hj => absurd hj (Nat.not_lt_zero _), by simp [loopC], by simp [loopC]⟩
  · rw [if_neg hf] at eK
    exact ⟨1, [], _, r2 (fun e => hf ((P0_all h3.1).1 e)), rfl, eK, fun j hj => absurd hj (Nat.not_lt_zero _), by simp [loopC], by simp [loopC]⟩
/-! ### the other check -/
theorem RC_runs {env : Env} (h2 : 1 ≤ env.v 0 ∧ env.v 0 ≤ 1099511627776) (h3 : 1 ≤ env.v 1 ∧ env.v 1 ≤ 48) : ∀ (q i : Nat), (env.v 1).toNat - i ≤ q → (i : Int) ≤ env.v 1 → (∀ j, j < i → okAt env.f (env.v 0) j) →
    (allOk env.f (env.v 0) (env.v 1) → Runs env (loopRC ctRC) [(i : Int)] 0 []) ∧ (¬ allOk env.f (env.v 0) (env.v 1) → Runs env (loopRC ctRC) [(i : Int)] 1 [])
  | q, i, hq, hi, hb => by
      have hh : HeadOK env (loopRC ctRC) [(i : Int)] := by
        rw [headOK_iff]
        exact ⟨⟨(by show 0 ≤ (i : Int) ∧ (i : Int) ≤ 48; omega), trivial⟩, ctCvP.2 ⟨h2, h3⟩⟩
      have v6 : (env.upd 6 [(i : Int)]).v 6 = (i : Int) := rfl
      by_cases hlt : (i : Int) < env.v 1
      · by_cases hP : okAt env.f (env.v 0) i
        · have ev : (loopRC ctRC).ct.ev (env.upd (loopRC ctRC).base [(i : Int)]) = some (0, [((i + 1 : Nat) : Int)]) := by
            show ctRC.ev (env.upd 6 [(i : Int)]) = _
            simp only [ctRC, ct_ite, ct_again, ct_exit, den_lit, den_var, den_ite, den_cmp, den_cmpB, den_tst, den_tstF, den_negT, den_negF, den_andT, den_andF, lssT, leqT, gtrT, geqT, eqlT, neqT, lssF, leqF, gtrF, geqF, eqlF, neqF, den_app, den_nilL, den_consL, den_add, den_sub, den_mul, den_tdiv, den_tmod, den_mx, den_mn, den_blit, den_bin, binI, upd_f, ups _ (show 0 < 6 by decide), ups _ (show 1 < 6 by decide), v6]
            unfold okAt at hP
            repeat' split
            all_goals first | rfl | (exfalso; omega)
          cases q with
          | zero => omega
          | succ q =>
            obtain ⟨r1, r2⟩ := RC_runs h2 h3 q (i + 1) (by omega) (by omega) (fun j hj => by
              by_cases hji : j = i
              · rw [hji]; exact hP
              · exact hb j (by omega))
            exact ⟨fun e => .again hh ev (r1 e), fun e => .again hh ev (r2 e)⟩
        · have ev : (loopRC ctRC).ct.ev (env.upd (loopRC ctRC).base [(i : Int)]) = some (2, []) := by
            show ctRC.ev (env.upd 6 [(i : Int)]) = _
            simp only [ctRC, ct_ite, ct_again, ct_exit, den_lit, den_var, den_ite, den_cmp, den_cmpB, den_tst, den_tstF, den_negT, den_negF, den_andT, den_andF, lssT, leqT, gtrT, geqT, eqlT, neqT, lssF, leqF, gtrF, geqF, eqlF, neqF, den_app, den_nilL, den_consL, den_add, den_sub, den_mul, den_tdiv, den_tmod, den_mx, den_mn, den_blit, den_bin, binI, upd_f, ups _ (show 0 < 6 by decide), ups _ (show 1 < 6 by decide), v6]
            unfold okAt at hP
            repeat' split
            all_goals first | rfl | (exfalso; refine hP ?_; clear hP hb; refine ⟨?_, ?_, fun _ => ?_, ?_, ?_, ?_, ?_⟩ <;> omega)
          exact ⟨fun e => absurd (e i hlt) hP, fun _ => .exit hh ev⟩
      · have ev : (loopRC ctRC).ct.ev (env.upd (loopRC ctRC).base [(i : Int)]) = some (1, []) := by
          show ctRC.ev (env.upd 6 [(i : Int)]) = _
          simp only [ctRC, ct_ite, ct_again, ct_exit, den_lit, den_var, den_ite, den_cmp, den_cmpB, den_tst, den_tstF, den_negT, den_negF, den_andT, den_andF, lssT, leqT, gtrT, geqT, eqlT, neqT, lssF, leqF, gtrF, geqF, eqlF, neqF, den_app, den_nilL, den_consL, den_add, den_sub, den_mul, den_tdiv, den_tmod, den_mx, den_mn, den_blit, den_bin, binI, upd_f, ups _ (show 0 < 6 by decide), ups _ (show 1 < 6 by decide), v6]
          rw [if_neg hlt]
        exact ⟨fun _ => .exit hh ev, fun e => absurd (fun j hj => hb j (by omega)) e⟩
open Classical in
theorem RC_ok {env : Env} (h : Good env.f) : LoopOK env (loopRC ctRC) := by
  intro l hl hh hp
  obtain ⟨i, rfl⟩ := len1 hl
  rw [headOK_iff] at hh
  obtain ⟨h2, h3⟩ := ctCvP.1 hh.2
  rw [show (loopRC ctRC).base = 6 from rfl, ups _ (show 0 < 6 by decide)] at h2
  rw [show (loopRC ctRC).base = 6 from rfl, ups _ (show 1 < 6 by decide)] at h3
  have p1 := hp (.cmp .eql (.var 6) (.lit 0)) (by simp [loopRC])
  rw [show (loopRC ctRC).base = 6 from rfl] at p1
  simp only [den_cmpB, eqlT, den_var, den_lit] at p1
  have p1' : i = 0 := p1
  subst p1'
  obtain ⟨r1, r2⟩ := RC_runs h2 h3 _ 0 (Nat.le_refl _) (by omega) (fun j hj => absurd hj (by omega))
  have eK : env.f (loopRC ctRC).K ([0] ++ denL env (loopRC ctRC).ex) = if allOk env.f (env.v 0) (env.v 1) then 0 else 1 := h.h30 ..
  by_cases hf : allOk env.f (env.v 0) (env.v 1)
  · rw [if_pos hf] at eK
    exact ⟨0, [], _, r1 hf, rfl, eK, fun j hj => absurd hj (Nat.not_lt_zero _), by simp [loopRC], by simp [loopRC]⟩
  · rw [if_neg hf] at eK
    exact ⟨1, [], _, r2 hf, rfl, eK, fun j hj => absurd hj (Nat.not_lt_zero _), by simp [loopRC], by simp [loopRC]⟩
/-! ### the program's search -/
theorem okBP {env : Env} (h : Good env.f) : okB.den env = true ↔ tarOk env.f (env.v 0) (env.v 1) (env.v 2) := by
  unfold okB
  simp only [den_lit, den_var, den_ite, den_cmp, den_cmpB, den_tst, den_tstF, den_negT, den_negF, den_andT, den_andF, lssT, leqT, gtrT, geqT, eqlT, neqT, lssF, leqF, gtrF, geqF, eqlF, neqF, den_app, den_nilL, den_consL, den_add, den_sub, den_mul, den_tdiv, den_tmod, den_mx, den_mn, den_blit, den_bin, binI, h.h61]
  by_cases ht : tarOk env.f (env.v 0) (env.v 1) (env.v 2)
  · simp [ht]
  · simp [ht]
theorem B_runs {env : Env} (h : Good env.f) (b : Nat) (h1 : 1 < env.v 1) (ht : tarOk env.f (env.v 0) (env.v 1) (env.v 2)) : ∀ (q i : Nat), (env.v 1).toNat - i ≤ q → (i : Int) < env.v 1 →
    Runs env (loopB b ctB) [(i : Int), env.f 5000 [(lastOf env.f ((env.v 3).tmod (env.v 0)) (i + 1) : Int)], env.f 5001 [(lastOf env.f ((env.v 3).tmod (env.v 0)) (i + 1) : Int)], env.f 5002 [(lastOf env.f ((env.v 3).tmod (env.v 0)) (i + 1) : Int)]] 0
      [env.f 5000 [(lastOf env.f ((env.v 3).tmod (env.v 0)) (env.v 1).toNat : Int)], env.f 5001 [(lastOf env.f ((env.v 3).tmod (env.v 0)) (env.v 1).toNat : Int)], env.f 5002 [(lastOf env.f ((env.v 3).tmod (env.v 0)) (env.v 1).toNat : Int)]]
  | q, i, hq, hi => by
      have hla := lastOf_lt env.f ((env.v 3).tmod (env.v 0)) (i + 1) (by omega)
      have hok := ht.2.2.2.2 (lastOf env.f ((env.v 3).tmod (env.v 0)) (i + 1)) (by omega)
      have htt := ht
      obtain ⟨⟨t1, t2⟩, ⟨t3, t4⟩, ⟨t5, t6⟩, t7, t8⟩ := htt
      unfold okAt at hok
      have hh : HeadOK env (loopB b ctB) [(i : Int), env.f 5000 [(lastOf env.f ((env.v 3).tmod (env.v 0)) (i + 1) : Int)], env.f 5001 [(lastOf env.f ((env.v 3).tmod (env.v 0)) (i + 1) : Int)], env.f 5002 [(lastOf env.f ((env.v 3).tmod (env.v 0)) (i + 1) : Int)]] := by
        rw [headOK_iff]
        refine ⟨⟨?_, ?_, ?_, ?_, trivial⟩, ?_⟩
        · show 0 ≤ (i : Int) ∧ (i : Int) ≤ 47
          omega
        · show -9223372036854775808 ≤ env.f 5000 [_] ∧ env.f 5000 [_] ≤ 9223372036854775807
          exact ⟨Int.le_trans (by decide) hok.1, by omega⟩
        · exact ⟨hok.2.2.2.1, hok.2.2.2.2.1⟩
        · exact ⟨hok.2.2.2.2.2.1, hok.2.2.2.2.2.2⟩
        · show factsP (env.upd 6 _) (ctCv ++ ([.cmp .gtr (.var 1) (.lit 1), okB] : List BE))
          rw [facts_app, ctCvP]
          refine ⟨⟨⟨t1, t2⟩, t5, t6⟩, ?_, ?_, trivial⟩
          · simp only [den_lit, den_var, den_ite, den_cmp, den_cmpB, den_tst, den_tstF, den_negT, den_negF, den_andT, den_andF, lssT, leqT, gtrT, geqT, eqlT, neqT, lssF, leqF, gtrF, geqF, eqlF, neqF, den_app, den_nilL, den_consL, den_add, den_sub, den_mul, den_tdiv, den_tmod, den_mx, den_mn, den_blit, den_bin, binI, ups _ (show 1 < 6 by decide)]; omega
          · exact (okBP (env := env.upd 6 _) h).2 ht
      by_cases hlt : (i : Int) < env.v 1 - 1
      · have e1 : 1 + (i : Int) = ((i + 1 : Nat) : Int) := by omega
        have ev : (loopB b ctB).ct.ev (env.upd (loopB b ctB).base [(i : Int), env.f 5000 [(lastOf env.f ((env.v 3).tmod (env.v 0)) (i + 1) : Int)], env.f 5001 [(lastOf env.f ((env.v 3).tmod (env.v 0)) (i + 1) : Int)], env.f 5002 [(lastOf env.f ((env.v 3).tmod (env.v 0)) (i + 1) : Int)]]) =
            some (0, [((i + 1 : Nat) : Int), env.f 5000 [(lastOf env.f ((env.v 3).tmod (env.v 0)) (i + 1 + 1) : Int)], env.f 5001 [(lastOf env.f ((env.v 3).tmod (env.v 0)) (i + 1 + 1) : Int)], env.f 5002 [(lastOf env.f ((env.v 3).tmod (env.v 0)) (i + 1 + 1) : Int)]]) := by
          show ctB.ev (env.upd 6 _) = _
          simp only [ctB, ct_ite, ct_again, ct_exit, den_lit, den_var, den_ite, den_cmp, den_cmpB, den_tst, den_tstF, den_negT, den_negF, den_andT, den_andF, lssT, leqT, gtrT, geqT, eqlT, neqT, lssF, leqF, gtrF, geqF, eqlF, neqF, den_app, den_nilL, den_consL, den_add, den_sub, den_mul, den_tdiv, den_tmod, den_mx, den_mn, den_blit, den_bin, binI, upd_f, ups _ (show 0 < 6 by decide), ups _ (show 1 < 6 by decide), ups _ (show 3 < 6 by decide), show ∀ a b c d, (env.upd 6 [a, b, c, d]).v 6 = a from fun _ _ _ _ => rfl, show ∀ a b c d, (env.upd 6 [a, b, c, d]).v 7 = b from fun _ _ _ _ => rfl,
            show ∀ a b c d, (env.upd 6 [a, b, c, d]).v 8 = c from fun _ _ _ _ => rfl, show ∀ a b c d, (env.upd 6 [a, b, c, d]).v 9 = d from fun _ _ _ _ => rfl]
          rw [if_pos hlt, e1]
          by_cases c : env.f 5000 [((i + 1 : Nat) : Int)] ≤ (env.v 3).tmod (env.v 0)
          · rw [if_pos c, show lastOf env.f ((env.v 3).tmod (env.v 0)) (i + 1 + 1) = i + 1 from if_pos c]; rfl
          · rw [if_neg c, show lastOf env.f ((env.v 3).tmod (env.v 0)) (i + 1 + 1) = lastOf env.f ((env.v 3).tmod (env.v 0)) (i + 1) from if_neg c]; rfl
        cases q with
        | zero => omega
        | succ q => exact .again hh ev (B_runs h b h1 ht q (i + 1) (by omega) (by omega))
      · have ev : (loopB b ctB).ct.ev (env.upd (loopB b ctB).base [(i : Int), env.f 5000 [(lastOf env.f ((env.v 3).tmod (env.v 0)) (i + 1) : Int)], env.f 5001 [(lastOf env.f ((env.v 3).tmod (env.v 0)) (i + 1) : Int)], env.f 5002 [(lastOf env.f ((env.v 3).tmod (env.v 0)) (i + 1) : Int)]]) =
            some (1, [env.f 5000 [(lastOf env.f ((env.v 3).tmod (env.v 0)) (i + 1) : Int)], env.f 5001 [(lastOf env.f ((env.v 3).tmod (env.v 0)) (i + 1) : Int)], env.f 5002 [(lastOf env.f ((env.v 3).tmod (env.v 0)) (i + 1) : Int)]]) := by
          show ctB.ev (env.upd 6 _) = _
          simp only [ctB, ct_ite, ct_again, ct_exit, den_lit, den_var, den_ite, den_cmp, den_cmpB, den_tst, den_tstF, den_negT, den_negF, den_andT, den_andF, lssT, leqT, gtrT, geqT, eqlT, neqT, lssF, leqF, gtrF, geqF, eqlF, neqF, den_app, den_nilL, den_consL, den_add, den_sub, den_mul, den_tdiv, den_tmod, den_mx, den_mn, den_blit, den_bin, binI, upd_f, ups _ (show 0 < 6 by decide), ups _ (show 1 < 6 by decide), ups _ (show 3 < 6 by decide), show ∀ a b c d, (env.upd 6 [a, b, c, d]).v 6 = a from fun _ _ _ _ => rfl, show ∀ a b c d, (env.upd 6 [a, b, c, d]).v 7 = b from fun _ _ _ _ => rfl,
            show ∀ a b c d, (env.upd 6 [a, b, c, d]).v 8 = c from fun _ _ _ _ => rfl, show ∀ a b c d, (env.upd 6 [a, b, c, d]).v 9 = d from fun _ _ _ _ => rfl]
          rw [if_neg hlt]
        rw [show (env.v 1).toNat = i + 1 by omega]
        exact .exit hh ev
theorem B_ok {env : Env} (h : Good env.f) (b : Nat) : LoopOK env (loopB b ctB) := by
  intro l hl hh hp
  obtain ⟨i, x, y, z, rfl⟩ := len4 hl
  rw [headOK_iff] at hh
  have hf : factsP (env.upd 6 [i, x, y, z]) (ctCv ++ ([.cmp .gtr (.var 1) (.lit 1), okB] : List BE)) := hh.2
  rw [facts_app] at hf
  obtain ⟨_, f1, f2, _⟩ := hf
  have ht : tarOk env.f (env.v 0) (env.v 1) (env.v 2) := (okBP (env := env.upd 6 [i, x, y, z]) h).1 f2
  have h1 : 1 < env.v 1 := by
    simp only [den_lit, den_var, den_ite, den_cmp, den_cmpB, den_tst, den_tstF, den_negT, den_negF, den_andT, den_andF, lssT, leqT, gtrT, geqT, eqlT, neqT, lssF, leqF, gtrF, geqF, eqlF, neqF, den_app, den_nilL, den_consL, den_add, den_sub, den_mul, den_tdiv, den_tmod, den_mx, den_mn, den_blit, den_bin, binI, ups _ (show 1 < 6 by decide)] at f1
    omega
  have p1 := hp (.cmp .eql (.var 6) (.lit 0)) (by simp [loopB])
  have p2 := hp (.cmp .eql (.var 7) (.app 5000 [.lit 0])) (by simp [loopB])
  have p3 := hp (.cmp .eql (.var 8) (.app 5001 [.lit 0])) (by simp [loopB])
  have p4 := hp (.cmp .eql (.var 9) (.app 5002 [.lit 0])) (by simp [loopB])
  rw [show (loopB b ctB).base = 6 from rfl] at p1 p2 p3 p4
  simp only [den_cmpB, eqlT, den_var, den_lit, den_app, den_consL, den_nilL, upd_f] at p1 p2 p3 p4
  have p1' : i = 0 := p1
  have p2' : x = env.f 5000 [0] := p2
  have p3' : y = env.f 5001 [0] := p3
  have p4' : z = env.f 5002 [0] := p4
  subst p1' p2' p3' p4'
  have rr := B_runs h b h1 ht _ 0 (Nat.le_refl _) (by omega)
  rw [lastOf_one] at rr
  have hla := lastOf_lt env.f ((env.v 3).tmod (env.v 0)) (env.v 1).toNat (by omega)
  have hok := ht.2.2.2.2 (lastOf env.f ((env.v 3).tmod (env.v 0)) (env.v 1).toNat) (by omega)
  unfold okAt at hok
  refine ⟨0, _, _, rr, rfl, ?_, fun j hj => ?_, by simp [loopB], fun e lo hi hm => ?_⟩
  · exact h.h40 ..
  · have hj3 : j < 3 := hj
    rcases (by omega : j = 0 ∨ j = 1 ∨ j = 2) with rfl | rfl | rfl
    · exact h.h41 ..
    · exact h.h42 ..
    · exact h.h43 ..
  · simp only [loopB, List.mem_cons, List.mem_nil_iff, or_false] at hm
    rcases hm with hm | hm
    · cases hm
      show 0 ≤ env.f 42 [0, env.f 5000 [0], env.f 5001 [0], env.f 5002 [0], env.v 0, env.v 1, env.v 3] ∧ env.f 42 [0, env.f 5000 [0], env.f 5001 [0], env.f 5002 [0], env.v 0, env.v 1, env.v 3] ≤ 1048576
      rw [h.h42]; exact ⟨hok.2.2.2.1, hok.2.2.2.2.1⟩
    · cases hm
      show 0 ≤ env.f 43 [0, env.f 5000 [0], env.f 5001 [0], env.f 5002 [0], env.v 0, env.v 1, env.v 3] ∧ env.f 43 [0, env.f 5000 [0], env.f 5001 [0], env.f 5002 [0], env.v 0, env.v 1, env.v 3] ≤ 1048576
      rw [h.h43]; exact ⟨hok.2.2.2.2.2.1, hok.2.2.2.2.2.2⟩
/-! ### the other search -/
theorem RB_runs {env : Env} (h2 : 1 ≤ env.v 0 ∧ env.v 0 ≤ 1099511627776) (h3 : 1 ≤ env.v 1 ∧ env.v 1 ≤ 48) : ∀ (q i : Nat), (env.v 1).toNat - i ≤ q → (i : Int) ≤ env.v 1 →
    Runs env (loopRB ctRB) [(lastOf env.f ((env.v 3).tmod (env.v 0)) i : Int), (i : Int)] 0 [(lastOf env.f ((env.v 3).tmod (env.v 0)) (env.v 1).toNat : Int)]
  | q, i, hq, hi => by
      have hla := lastOf_le env.f ((env.v 3).tmod (env.v 0)) (n := i) (k := (env.v 1).toNat) (by omega) (by omega)
      have hh : HeadOK env (loopRB ctRB) [(lastOf env.f ((env.v 3).tmod (env.v 0)) i : Int), (i : Int)] := by
        rw [headOK_iff]
        refine ⟨⟨?_, ?_, trivial⟩, ?_⟩
        · show 0 ≤ (lastOf env.f ((env.v 3).tmod (env.v 0)) i : Int) ∧ (lastOf env.f ((env.v 3).tmod (env.v 0)) i : Int) ≤ 47
          omega
        · show 0 ≤ (i : Int) ∧ (i : Int) ≤ 48
          omega
        · show factsP (env.upd 6 _) (ctCv ++ ([.cmp .lss (.var 6) (.var 1)] : List BE))
          rw [facts_app, ctCvP]
          refine ⟨⟨h2, h3⟩, ?_, trivial⟩
          simp only [den_lit, den_var, den_ite, den_cmp, den_cmpB, den_tst, den_tstF, den_negT, den_negF, den_andT, den_andF, lssT, leqT, gtrT, geqT, eqlT, neqT, lssF, leqF, gtrF, geqF, eqlF, neqF, den_app, den_nilL, den_consL, den_add, den_sub, den_mul, den_tdiv, den_tmod, den_mx, den_mn, den_blit, den_bin, binI, ups _ (show 1 < 6 by decide)]
          show (lastOf env.f ((env.v 3).tmod (env.v 0)) i : Int) < env.v 1
          omega
      have v6 : ∀ a b, (env.upd 6 [a, b]).v 6 = a := fun _ _ => rfl
      have v7 : ∀ a b, (env.upd 6 [a, b]).v 7 = b := fun _ _ => rfl
      by_cases hlt : (i : Int) < env.v 1
      · have ev : (loopRB ctRB).ct.ev (env.upd (loopRB ctRB).base [(lastOf env.f ((env.v 3).tmod (env.v 0)) i : Int), (i : Int)]) = some (0, [(lastOf env.f ((env.v 3).tmod (env.v 0)) (i + 1) : Int), ((i + 1 : Nat) : Int)]) := by
          show ctRB.ev (env.upd 6 _) = _
          simp only [ctRB, ct_ite, ct_again, ct_exit, den_lit, den_var, den_ite, den_cmp, den_cmpB, den_tst, den_tstF, den_negT, den_negF, den_andT, den_andF, lssT, leqT, gtrT, geqT, eqlT, neqT, lssF, leqF, gtrF, geqF, eqlF, neqF, den_app, den_nilL, den_consL, den_add, den_sub, den_mul, den_tdiv, den_tmod, den_mx, den_mn, den_blit, den_bin, binI, upd_f, ups _ (show 0 < 6 by decide), ups _ (show 1 < 6 by decide), ups _ (show 3 < 6 by decide), v6, v7]
          rw [if_pos hlt]
          by_cases c : env.f 5000 [(i : Int)] ≤ (env.v 3).tmod (env.v 0)
          · rw [if_pos c, show lastOf env.f ((env.v 3).tmod (env.v 0)) (i + 1) = i from if_pos c]; rfl
          · rw [if_neg c, show lastOf env.f ((env.v 3).tmod (env.v 0)) (i + 1) = lastOf env.f ((env.v 3).tmod (env.v 0)) i from if_neg c]; rfl
        cases q with
        | zero => omega
        | succ q => exact .again hh ev (RB_runs h2 h3 q (i + 1) (by omega) (by omega))
      · have ev : (loopRB ctRB).ct.ev (env.upd (loopRB ctRB).base [(lastOf env.f ((env.v 3).tmod (env.v 0)) i : Int), (i : Int)]) = some (1, [(lastOf env.f ((env.v 3).tmod (env.v 0)) i : Int)]) := by
          show ctRB.ev (env.upd 6 _) = _
          simp only [ctRB, ct_ite, ct_again, ct_exit, den_lit, den_var, den_ite, den_cmp, den_cmpB, den_tst, den_tstF, den_negT, den_negF, den_andT, den_andF, lssT, leqT, gtrT, geqT, eqlT, neqT, lssF, leqF, gtrF, geqF, eqlF, neqF, den_app, den_nilL, den_consL, den_add, den_sub, den_mul, den_tdiv, den_tmod, den_mx, den_mn, den_blit, den_bin, binI, upd_f, ups _ (show 0 < 6 by decide), ups _ (show 1 < 6 by decide), ups _ (show 3 < 6 by decide), v6, v7]
          rw [if_neg hlt]
        rw [show (env.v 1).toNat = i by omega]
        exact .exit hh ev
theorem RB_ok {env : Env} (h : Good env.f) : LoopOK env (loopRB ctRB) := by
  intro l hl hh hp
  obtain ⟨k, i, rfl⟩ := len2 hl
  rw [headOK_iff] at hh
  have hf : factsP (env.upd 6 [k, i]) (ctCv ++ ([.cmp .lss (.var 6) (.var 1)] : List BE)) := hh.2
  rw [facts_app, ctCvP] at hf
  obtain ⟨⟨h2, h3⟩, _⟩ := hf
  rw [ups _ (show 0 < 6 by decide)] at h2
  rw [ups _ (show 1 < 6 by decide)] at h3
  have p1 := hp (.cmp .eql (.var 6) (.lit 0)) (by simp [loopRB])
  have p2 := hp (.cmp .eql (.var 7) (.lit 0)) (by simp [loopRB])
  rw [show (loopRB ctRB).base = 6 from rfl] at p1 p2
  simp only [den_cmpB, eqlT, den_var, den_lit] at p1 p2
  have p1' : k = 0 := p1
  have p2' : i = 0 := p2
  subst p1' p2'
  have rr := RB_runs h2 h3 _ 0 (Nat.le_refl _) (by omega)
  have hla := lastOf_lt env.f ((env.v 3).tmod (env.v 0)) (env.v 1).toNat (by omega)
  have e51 : env.f 51 [0, 0, env.v 0, env.v 1, env.v 3] = (lastOf env.f ((env.v 3).tmod (env.v 0)) (env.v 1).toNat : Int) := h.h51 ..
  refine ⟨0, _, _, rr, rfl, ?_, fun j hj => ?_, fun b hb => ?_, fun e lo hi hm => ?_⟩
  · exact h.h50 ..
  · obtain rfl : j = 0 := by
      have : j < 1 := hj
      omega
    exact e51
  · simp only [loopRB, List.mem_singleton] at hb
    subst hb
    simp only [kE, exB, den_lit, den_var, den_ite, den_cmp, den_cmpB, den_tst, den_tstF, den_negT, den_negF, den_andT, den_andF, lssT, leqT, gtrT, geqT, eqlT, neqT, lssF, leqF, gtrF, geqF, eqlF, neqF, den_app, den_nilL, den_consL, den_add, den_sub, den_mul, den_tdiv, den_tmod, den_mx, den_mn, den_blit, den_bin, binI]
    show env.f 51 [0, 0, env.v 0, env.v 1, env.v 3] < env.v 1
    rw [e51]; omega
  · simp only [loopRB, List.mem_singleton] at hm
    cases hm
    show 0 ≤ env.f 51 [0, 0, env.v 0, env.v 1, env.v 3] ∧ env.f 51 [0, 0, env.v 0, env.v 1, env.v 3] ≤ 47
    rw [e51]; omega
theorem X0_ok {fn : Fn} (h : Good fn) : ParOK Try.prog fn X0 :=
  ⟨fun env _ => noBook_ok _ _, (by
    intro env he f i g hg tm s L hL
    have hf : Good env.f := by rw [he]; exact h
    simp only [X0, XT, loopsT] at hg
    split at hg
    · cases hg
      simp only at hL
      split at hL
      · cases hL; exact C_ok hf
      · cases hL
    · split at hg
      · cases hg; cases hL; exact RC_ok hf
      · split at hg
        · cases hg
          simp only at hL
          split at hL
          · simp only [Option.map_eq_some_iff] at hL
            obtain ⟨b, _, rfl⟩ := hL
            exact B_ok hf b
          · cases hL
        · split at hg
          · cases hg; cases hL; exact RB_ok hf
          · cases hg), h.rows, fun env _ => noGen_ok _ _⟩
end Go.Proofs.Ytlbmeamjgdgbmaa
