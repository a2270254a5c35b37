/- Fuses: the heat, when a fuse melts, the loops that find it. -/
import Derived.Test.YtgklokcknifedaaSw40
import Derived.Test.YtgklokcknifedaaChecked
namespace Go.Proofs.Ytgklokcknifedaa
open Go Go.SX Go.RowKit
set_option linter.unusedVariables false
set_option linter.unusedSimpArgs false
set_option maxRecDepth 100000
def bet (e : E) (lo hi : Int) : List BE := [.cmp .geq e (.lit lo), .cmp .leq e (.lit hi)]
def v04 : List E := [.var 0, .var 1, .var 2, .var 3]
def rwP (t c : Nat) : RowP := ⟨t, [some .i64], 2, c, 4⟩
def nilE : E := .app 1000 []
def lfE (k : Nat) : E := .app k ([.var 4, .var 5, .var 6, .var 7] ++ v04)
def loopF (ct : CT) : LC := ⟨4, 4, [(13, .int .i64 (.var 4))], [], [0, 1, 2, 3, 8, 9], [(0, 100)], [], [⟨.exit 0, 4, [], [], [rwP 10 5, rwP 11 6, rwP 12 7]⟩], ct,
  [.cmp .eql (.var 4) (.lit 0), .cmp .eql (.var 5) nilE, .cmp .eql (.var 6) nilE, .cmp .eql (.var 7) nilE], 20, [], [(lfE 21, 0, 100)], v04, [rwP 10 5, rwP 11 6, rwP 12 7]⟩
def loopA (code len : E) (ct : CT) : LC := ⟨4, 1, [(11, .int .i64 (.var 4))], [], [0, 1, 2, 6, 9, 10], [(0, 100)], bet len 0 100, [⟨.exit 0, 0, [], [], []⟩, ⟨.ret, 0, [(6, .bool (.lit false))], [], []⟩], ct, [.cmp .eql (.var 4) (.lit 0)], 30, [], [], [code, len], []⟩
def rE : E := .var 0
def mE : E := .op .add (.lit 1) (.var 1)
def loopH (code len : E) (ct : CT) : LC := ⟨4, 2, [(30, .int .i64 (.var 4)), (7, .int .i64 (.var 5))], [], [1, 2, 28, 29], [(0, 100), (0, 4294967296)], bet len 0 100 ++ bet (.var 0) 0 65535 ++ bet (.var 1) 0 4294967295 ++ ([.cmp .eql (.app 30 [.lit 0, code, len]) (.lit 0)] : List BE), [⟨.exit 0, 0, [], [], []⟩, ⟨.ret, 1, [(4, .int .i64 (.var 4)), (5, .bool (.lit true)), (6, .int .i64 (.lit 0))], [], []⟩], ct,
  [.cmp .eql (.var 4) (.lit 0), .cmp .eql (.var 5) (.lit 0)], 40, [], [], [code, len, rE, mE], []⟩
def rowIn (t : Nat) (tm : T SV) (s : St) : Option (E × E) := match tm.get t with
  | some (.vg b N) => (match s.h.get b with
    | some (.vec _ code _ _) => some (code, N)
    | _ => none)
  | _ => none
def cE (k : Nat) : E := .app k ([.lit 0, nilE, nilE, nilE] ++ v04)
def lnE : E := .app 21 ([.lit 0, nilE, nilE, nilE] ++ v04)
def pick (p : E × E) : Option Nat := bif p.2.same lnE then (bif p.1.same (cE 22) then some 22 else bif p.1.same (cE 23) then some 23 else bif p.1.same (cE 24) then some 24 else none) else none
def loopsF (a b c : E → E → CT) : LBook := fun f i => if f == 3 && i == 4 then some (fun _ _ => some (loopF (a nilE nilE))) else if f == 6 && i == 2 then some (fun tm s => ((rowIn 9 tm s).bind pick).map fun k => loopA (cE k) lnE (b (cE k) lnE)) else if f == 4 && i == 9 then some (fun tm s => ((rowIn 28 tm s).bind pick).map fun k => loopH (cE k) lnE (c (cE k) lnE)) else none
def knF : FC := ⟨5, [], .bool (.lit true), [], [], []⟩
def XF (a b c : E → E → CT) : Par := knF.par { noPar with loops := loopsF a b c }
def ctF : CT := (.ite (.cmp .lss (.var 4) (.var 2)) (.ite (.cmp .lss (.var 4) (.lit 100)) (.ite (.cmp .lss (.var 4) (.var 3)) (.ite (.cmp .lss (.app 5000 [(.var 4)]) (.lit 0)) (.again [(.op .add (.var 4) (.lit 1)), (.app 1001 [(.var 5), (.app 5000 [(.var 4)])]), (.app 1001 [(.var 6), (.op .add (.app 5000 [(.var 4)]) (.op .sub (.lit 0) (.app 5100 [(.var 4)])))]), (.app 1001 [(.var 7), (.op .mx (.app 5000 [(.var 4)]) (.op .sub (.lit 0) (.var 0)))])]) (.again [(.op .add (.var 4) (.lit 1)), (.app 1001 [(.var 5), (.app 5000 [(.var 4)])]), (.app 1001 [(.var 6), (.op .add (.app 5000 [(.var 4)]) (.app 5100 [(.var 4)]))]), (.app 1001 [(.var 7), (.op .mn (.app 5000 [(.var 4)]) (.var 0))])])) (.ite (.cmp .lss (.app 5000 [(.var 4)]) (.lit 0)) (.again [(.op .add (.var 4) (.lit 1)), (.app 1001 [(.var 5), (.app 5000 [(.var 4)])]), (.app 1001 [(.var 6), (.op .add (.app 5000 [(.var 4)]) (.lit 0))]), (.app 1001 [(.var 7), (.op .mx (.app 5000 [(.var 4)]) (.op .sub (.lit 0) (.var 0)))])]) (.again [(.op .add (.var 4) (.lit 1)), (.app 1001 [(.var 5), (.app 5000 [(.var 4)])]), (.app 1001 [(.var 6), (.op .add (.app 5000 [(.var 4)]) (.lit 0))]), (.app 1001 [(.var 7), (.op .mn (.app 5000 [(.var 4)]) (.var 0))])]))) (.exit 0 [(.var 4), (.var 5), (.var 6), (.var 7)])) (.exit 0 [(.var 4), (.var 5), (.var 6), (.var 7)]))
def gE (code : E) : E := .app 1200 [code, .var 4]
def ctA (code len : E) : CT := .ite (.cmp .lss (.var 4) len) (.ite (.cmp .lss (gE code) (.lit (-1048576))) (.exit 1 []) (.ite (.cmp .gtr (gE code) (.lit 1048576)) (.exit 1 []) (.again [.op .add (.var 4) (.lit 1)]))) (.exit 0 [])
def hE (code : E) : E := .op .mx (.lit 0) (.bin .sub .i64 (.bin .add .i64 (.var 5) (.bin .mul .i64 (gE code) (gE code))) (.op .mul (.var 0) (.var 0)))
def ctH (code len : E) : CT := .ite (.cmp .lss (.var 4) len) (.ite (.cmp .geq (hE code) (.op .add (.lit 1) (.var 1))) (.exit 1 [.var 4]) (.again [.op .add (.var 4) (.lit 1), hE code])) (.exit 0 [])
theorem mixF : Try.prog.follows .mixedOrders = true := by kernel_rfl
def heat (x : Nat → Int) (R : Int) : Nat → Int
  | 0 => 0
  | n + 1 => max 0 (heat x R n + x n * x n - R * R)
/-- the first of some moments with so much heat -/
def fM (x : Nat → Int) (R M : Int) : Nat → Option Nat
  | 0 => none
  | n + 1 => match fM x R M n with
    | some i => some i
    | none => if M ≤ heat x R (n + 1) then some n else none
theorem heat_congr {x y : Nat → Int} {R : Int} : ∀ {n : Nat}, (∀ j, j < n → x j = y j) → heat x R n = heat y R n
  | 0, _ => rfl
  | n + 1, h => by simp only [heat, heat_congr (n := n) fun j hj => h j (by omega), h n (by omega)]
theorem fM_congr {x y : Nat → Int} {R M : Int} : ∀ {n : Nat}, (∀ j, j < n → x j = y j) → fM x R M n = fM y R M n
  | 0, _ => rfl
  | n + 1, h => by simp only [fM, fM_congr (n := n) fun j hj => h j (by omega), heat_congr (n := n + 1) h]
theorem fM_some {x : Nat → Int} {R M : Int} : ∀ {n i : Nat}, fM x R M n = some i → i < n ∧ M ≤ heat x R (i + 1) ∧ ∀ j, j < i → heat x R (j + 1) < M
  | 0, i, h => by cases h
  | n + 1, i, h => by
      rw [fM] at h
      cases e : fM x R M n with
      | some k =>
        rw [e] at h
        cases h
        obtain ⟨a, b, c⟩ := fM_some e
        exact ⟨by omega, b, c⟩
      | none =>
        rw [e] at h
        simp only at h
        split at h
        · rename_i hm
          cases h
          refine ⟨by omega, hm, fun j hj => ?_⟩
          have : ∀ (n : Nat), fM x R M n = none → ∀ j, j < n → heat x R (j + 1) < M := by
            intro n
            induction n with
            | zero => intro _ j hj; omega
            | succ n ih =>
              intro h j hj
              rw [fM] at h
              cases e : fM x R M n with
              | some k => rw [e] at h; cases h
              | none =>
                rw [e] at h
                simp only at h
                split at h
                · cases h
                · rename_i hm
                  by_cases hjn : j = n
                  · subst hjn; omega
                  · exact ih e j (by omega)
          exact this n e j hj
        · cases h
theorem fM_none {x : Nat → Int} {R M : Int} : ∀ {n : Nat}, fM x R M n = none → ∀ j, j < n → heat x R (j + 1) < M
  | 0, _, j, hj => by omega
  | n + 1, h, j, hj => by
      rw [fM] at h
      cases e : fM x R M n with
      | some k => rw [e] at h; cases h
      | none =>
        rw [e] at h
        simp only at h
        split at h
        · cases h
        · rename_i hm
          by_cases hjn : j = n
          · subst hjn; omega
          · exact fM_none e j (by omega)
theorem heat_nn (x : Nat → Int) (R : Int) : ∀ n, 0 ≤ heat x R n
  | 0 => Int.le_refl _
  | n + 1 => by simp only [heat]; omega
theorem heat_le {x y : Nat → Int} {R : Int} : ∀ {n : Nat}, (∀ j, j < n → x j * x j ≤ y j * y j) → heat x R n ≤ heat y R n
  | 0, _ => Int.le_refl _
  | n + 1, h => by
      have h1 := heat_le (R := R) (n := n) fun j hj => h j (by omega)
      have h2 := h n (by omega)
      simp only [heat]; omega
theorem heat_zero {x : Nat → Int} {R : Int} : ∀ {n : Nat}, (∀ j, j < n → x j * x j ≤ R * R) → heat x R n = 0
  | 0, _ => rfl
  | n + 1, h => by
      have h1 := heat_zero (n := n) fun j hj => h j (by omega)
      have h2 := h n (by omega)
      simp only [heat]; omega
theorem never {x : Nat → Int} {R M : Int} {n : Nat} (hM : 1 ≤ M) (h : ∀ j, j < n → x j * x j ≤ R * R) : fM x R M n = none := by
  cases e : fM x R M n with
  | none => rfl
  | some i =>
    obtain ⟨a, b, c⟩ := fM_some e
    have := heat_zero (n := i + 1) (R := R) fun j hj => h j (by omega)
    omega
theorem sooner {x y : Nat → Int} {R M : Int} {n i : Nat} (h : ∀ j, j < n → x j * x j ≤ y j * y j) (e : fM x R M n = some i) : ∃ k, fM y R M n = some k ∧ k ≤ i := by
  obtain ⟨a, b, c⟩ := fM_some e
  have := heat_le (n := i + 1) (R := R) fun j hj => h j (by omega)
  cases e2 : fM y R M n with
  | none => have := fM_none e2 i a; omega
  | some k =>
    obtain ⟨a2, b2, c2⟩ := fM_some e2
    refine ⟨k, rfl, ?_⟩
    by_cases hk : k ≤ i
    · exact hk
    · have := c2 i (by omega); omega
/-- the currents -/
def aF (f : Nat → List Int → Int) (i : Nat) : Int := f 5000 [(i : Int)]
def bF (f : Nat → List Int → Int) (mo : Int) (i : Nat) : Int := if (i : Int) < mo then (if aF f i < 0 then aF f i + (0 - f 5100 [(i : Int)]) else aF f i + f 5100 [(i : Int)]) else aF f i + 0
def cF (f : Nat → List Int → Int) (R : Int) (i : Nat) : Int := if aF f i < 0 then max (aF f i) (0 - R) else min (aF f i) R
def num (ln : Int) : Nat := (max 0 (min ln 100)).toNat
def xs (x : Nat → Int) (n : Nat) : List Int := (List.range n).map x
noncomputable def gt (c : Int) : Nat → Int := fun j => (dec c).getD j 0
def Fits (c : Int) (n : Nat) : Prop := ∀ j, j < n → -1048576 ≤ gt c j ∧ gt c j ≤ 1048576
open Classical in
noncomputable def bfn (g : Nat → List Int → Int) : Nat → List Int → Int := fun k a => match k, a with
  | 20, [i, p, q, r, R, m, ln, mo] => 0
  | 21, [i, p, q, r, R, m, ln, mo] => (num ln : Int)
  | 22, [i, p, q, r, R, m, ln, mo] => enc (xs (aF g) (num ln))
  | 23, [i, p, q, r, R, m, ln, mo] => enc (xs (bF g mo) (num ln))
  | 24, [i, p, q, r, R, m, ln, mo] => enc (xs (cF g R) (num ln))
  | 30, [i, c, n] => if Fits c n.toNat then 0 else 1
  | 40, [i, h, c, n, R, M] => if (fM (gt c) R M n.toNat).isSome then 1 else 0
  | 41, [i, h, c, n, R, M] => ((fM (gt c) R M n.toNat).getD 0 : Nat)
  | k, a => g k a
open Classical in
structure Good (fn : Nat → List Int → Int) : Prop where
  rows : RowFn fn
  h20 : ∀ i p q r R m ln mo, fn 20 [i, p, q, r, R, m, ln, mo] = 0
  h21 : ∀ i p q r R m ln mo, fn 21 [i, p, q, r, R, m, ln, mo] = (num ln : Int)
  h22 : ∀ i p q r R m ln mo, fn 22 [i, p, q, r, R, m, ln, mo] = enc (xs (aF fn) (num ln))
  h23 : ∀ i p q r R m ln mo, fn 23 [i, p, q, r, R, m, ln, mo] = enc (xs (bF fn mo) (num ln))
  h24 : ∀ i p q r R m ln mo, fn 24 [i, p, q, r, R, m, ln, mo] = enc (xs (cF fn R) (num ln))
  h30 : ∀ i c n, fn 30 [i, c, n] = if Fits c n.toNat then 0 else 1
  h40 : ∀ i h c n R M, fn 40 [i, h, c, n, R, M] = if (fM (gt c) R M n.toNat).isSome then 1 else 0
  h41 : ∀ i h c n R M, fn 41 [i, h, c, n, R, M] = ((fM (gt c) R M n.toNat).getD 0 : Nat)
theorem bfn_high (g : Nat → List Int → Int) (k : Nat) (a : List Int) (h : 1000 ≤ k) : bfn g k a = g k a := by
  unfold bfn
  split <;> first | omega | rfl
theorem good_of (g : Nat → List Int → Int) (hg : RowFn g) : Good (bfn g) := by
  have ea : aF (bfn g) = aF g := by funext i; exact bfn_high g 5000 _ (by decide)
  have eb : ∀ mo, bF (bfn g) mo = bF g mo := fun mo => by
    funext i
    unfold bF
    rw [ea, bfn_high g 5100 _ (by decide)]
  have ec : ∀ R, cF (bfn g) R = cF g R := fun R => by funext i; unfold cF; rw [ea]
  exact ⟨fun k a h1 h2 => by rw [bfn_high g k a h1]; exact hg k a h1 h2, fun _ _ _ _ _ _ _ _ => rfl, fun _ _ _ _ _ _ _ _ => rfl, fun _ _ _ _ _ _ _ _ => by rw [ea]; rfl, fun _ _ _ _ _ _ _ _ => by rw [eb]; rfl,
    fun _ _ _ _ _ _ _ _ => by rw [ec]; rfl, fun _ _ _ => rfl, fun _ _ _ _ _ _ => rfl, fun _ _ _ _ _ _ => rfl⟩
theorem xs_succ (x : Nat → Int) (n : Nat) : xs x (n + 1) = xs x n ++ [x n] := by simp [xs, List.range_succ]
theorem gt_xs {x : Nat → Int} {n j : Nat} (h : j < n) : gt (enc (xs x n)) j = x j := by
  unfold gt xs
  rw [dec_enc, List.getD_eq_getElem?_getD, List.getElem?_map, List.getElem?_range h]
  rfl
/-! ### the loop over the currents -/
theorem F_runs {env : Env} (h : Good env.f) : ∀ (k i : Nat), 100 - i ≤ k → i ≤ num (env.v 2) → Runs env (loopF ctF) [(i : Int), enc (xs (aF env.f) i), enc (xs (bF env.f (env.v 3)) i), enc (xs (cF env.f (env.v 0)) i)] 0
      [(num (env.v 2) : Int), enc (xs (aF env.f) (num (env.v 2))), enc (xs (bF env.f (env.v 3)) (num (env.v 2))), enc (xs (cF env.f (env.v 0)) (num (env.v 2)))]
  | k, i, hk, hi => by
      have hn : (num (env.v 2) : Int) = max 0 (min (env.v 2) 100) := by unfold num; omega
      have hh : HeadOK env (loopF ctF) [(i : Int), enc (xs (aF env.f) i), enc (xs (bF env.f (env.v 3)) i), enc (xs (cF env.f (env.v 0)) i)] := by
        rw [headOK_iff]
        refine ⟨⟨?_, trivial⟩, trivial⟩
        show 0 ≤ (i : Int) ∧ (i : Int) ≤ 100
        omega
      have sn : ∀ (x : Nat → Int) (y : Int), y = x i → env.f 1001 [enc (xs x i), y] = enc (xs x (i + 1)) := fun x y hy => by
        rw [h.rows 1001 _ (by decide) (by decide), rowOp_snoc, dec_enc, xs_succ, hy]
      have ev : (loopF ctF).ct.ev (env.upd (loopF ctF).base [(i : Int), enc (xs (aF env.f) i), enc (xs (bF env.f (env.v 3)) i), enc (xs (cF env.f (env.v 0)) i)]) =
          if (i : Int) < env.v 2 ∧ (i : Int) < 100 then some (0, [((i + 1 : Nat) : Int), enc (xs (aF env.f) (i + 1)), enc (xs (bF env.f (env.v 3)) (i + 1)), enc (xs (cF env.f (env.v 0)) (i + 1))])
          else some (1, [(i : Int), enc (xs (aF env.f) i), enc (xs (bF env.f (env.v 3)) i), enc (xs (cF env.f (env.v 0)) i)]) := by
        show ctF.ev (env.upd 4 _) = _
        have ea : env.f 5000 [(i : Int)] = aF env.f i := rfl
        have u : ∀ j, j < 4 → (env.upd 4 [(i : Int), enc (xs (aF env.f) i), enc (xs (bF env.f (env.v 3)) i), enc (xs (cF env.f (env.v 0)) i)]).v j = env.v j := fun j hj => if_pos hj
        simp only [ctF, ct_ite, ct_again, ct_exit, den_lit, den_var, den_ite, den_cmp, den_cmpB, den_tst, den_tstF, den_negT, den_negF, den_andT, den_andF, lssT, leqT, gtrT, geqT, eqlT, neqT, lssF, leqF, gtrF, geqF, eqlF, neqF, den_app, den_nilL, den_consL, den_add, den_sub, den_mul, den_tdiv, den_tmod, den_mx, den_mn, den_blit, den_bin, binI, u 0 (by decide), u 2 (by decide), u 3 (by decide), upd_f, show (env.upd 4 [(i : Int), enc (xs (aF env.f) i), enc (xs (bF env.f (env.v 3)) i), enc (xs (cF env.f (env.v 0)) i)]).v 4 = (i : Int) from rfl,
          show (env.upd 4 [(i : Int), enc (xs (aF env.f) i), enc (xs (bF env.f (env.v 3)) i), enc (xs (cF env.f (env.v 0)) i)]).v 5 = enc (xs (aF env.f) i) from rfl, show (env.upd 4 [(i : Int), enc (xs (aF env.f) i), enc (xs (bF env.f (env.v 3)) i), enc (xs (cF env.f (env.v 0)) i)]).v 6 = enc (xs (bF env.f (env.v 3)) i) from rfl,
          show (env.upd 4 [(i : Int), enc (xs (aF env.f) i), enc (xs (bF env.f (env.v 3)) i), enc (xs (cF env.f (env.v 0)) i)]).v 7 = enc (xs (cF env.f (env.v 0)) i) from rfl, ea]
        by_cases c1 : (i : Int) < env.v 2
        · rw [if_pos c1]
          by_cases c2 : (i : Int) < 100
          · rw [if_pos c2, if_pos (And.intro c1 c2), sn (aF env.f) _ rfl]
            by_cases c3 : (i : Int) < env.v 3
            · rw [if_pos c3]
              by_cases c4 : aF env.f i < 0
              · rw [if_pos c4, sn (bF env.f (env.v 3)) _ (by unfold bF; rw [if_pos c3, if_pos c4]), sn (cF env.f (env.v 0)) _ (by unfold cF; rw [if_pos c4])]
                rfl
              · rw [if_neg c4, sn (bF env.f (env.v 3)) _ (by unfold bF; rw [if_pos c3, if_neg c4]), sn (cF env.f (env.v 0)) _ (by unfold cF; rw [if_neg c4])]
                rfl
            · rw [if_neg c3]
              by_cases c4 : aF env.f i < 0
              · rw [if_pos c4, sn (bF env.f (env.v 3)) _ (by unfold bF; rw [if_neg c3]), sn (cF env.f (env.v 0)) _ (by unfold cF; rw [if_pos c4])]
                rfl
              · rw [if_neg c4, sn (bF env.f (env.v 3)) _ (by unfold bF; rw [if_neg c3]), sn (cF env.f (env.v 0)) _ (by unfold cF; rw [if_neg c4])]
                rfl
          · rw [if_neg c2, if_neg (fun z => c2 z.2)]
        · rw [if_neg c1, if_neg (fun z => c1 z.1)]
      by_cases hc : (i : Int) < env.v 2 ∧ (i : Int) < 100
      · rw [if_pos hc] at ev
        cases k with
        | zero => omega
        | succ k => exact .again hh ev (F_runs h k (i + 1) (by omega) (by omega))
      · rw [if_neg hc] at ev
        have : i = num (env.v 2) := by omega
        rw [← this]
        exact .exit hh ev
theorem F_ok {env : Env} (h : Good env.f) : LoopOK env (loopF ctF) := by
  intro l hl hh hp
  obtain ⟨i, p, q, r, rfl⟩ := len4 hl
  have p1 := hp (.cmp .eql (.var 4) (.lit 0)) (by simp [loopF])
  have p2 := hp (.cmp .eql (.var 5) nilE) (by simp [loopF])
  have p3 := hp (.cmp .eql (.var 6) nilE) (by simp [loopF])
  have p4 := hp (.cmp .eql (.var 7) nilE) (by simp [loopF])
  rw [show (loopF ctF).base = 4 from rfl] at p1 p2 p3 p4
  have en : nilE.den (env.upd 4 [i, p, q, r]) = enc [] := by
    show env.f 1000 [] = _
    rw [h.rows 1000 _ (by decide) (by decide), rowOp_lit]
  simp only [den_cmpB, eqlT, en, den_var, den_lit] at p1 p2 p3 p4
  have p1' : i = 0 := p1
  have p2' : p = enc [] := p2
  have p3' : q = enc [] := p3
  have p4' : r = enc [] := p4
  subst p1' p2' p3' p4'
  have rr := F_runs h 100 0 (by omega) (by omega)
  have eA : ∀ k, env.f k ([0, enc [], enc [], enc []] ++ denL env v04) = env.f k [0, enc [], enc [], enc [], env.v 0, env.v 1, env.v 2, env.v 3] := fun k => rfl
  refine ⟨0, _, _, rr, rfl, ?_, fun j hj => ?_, by simp [loopF], fun e lo hi hm => ?_⟩
  · show env.f 20 ([0, enc [], enc [], enc []] ++ denL env v04) = 0
    rw [eA]; exact h.h20 ..
  · have hj4 : j < 4 := hj
    rcases (by omega : j = 0 ∨ j = 1 ∨ j = 2 ∨ j = 3) with rfl | rfl | rfl | rfl
    · show env.f 21 ([0, enc [], enc [], enc []] ++ denL env v04) = _; rw [eA, h.h21]; rfl
    · show env.f 22 ([0, enc [], enc [], enc []] ++ denL env v04) = _; rw [eA, h.h22]; rfl
    · show env.f 23 ([0, enc [], enc [], enc []] ++ denL env v04) = _; rw [eA, h.h23]; rfl
    · show env.f 24 ([0, enc [], enc [], enc []] ++ denL env v04) = _; rw [eA, h.h24]; rfl
  · simp only [loopF, List.mem_singleton] at hm
    cases hm
    show 0 ≤ env.f 21 [0, enc [], enc [], enc [], env.v 0, env.v 1, env.v 2, env.v 3] ∧ env.f 21 [0, enc [], enc [], enc [], env.v 0, env.v 1, env.v 2, env.v 3] ≤ 100
    rw [h.h21]
    unfold num
    omega
end Go.Proofs.Ytgklokcknifedaa
