/- Fused spans: who lies, how many support a number, the least and the greatest of those that are supported. -/
import Derived.Test.YtkdmnjpkimnmbaaSw43
import Derived.Test.YtkdmnjpkimnmbaaChecked
namespace Go.Proofs.Ytkdmnjpkimnmbaa
open Go Go.SX Go.RowKit
set_option linter.unusedVariables false
set_option linter.unusedSimpArgs false
set_option maxRecDepth 100000
set_option maxHeartbeats 4000000
def bet (e : E) (lo hi : Int) : List BE := [.cmp .geq e (.lit lo), .cmp .leq e (.lit hi)]
abbrev fl : PSh := .flat false [some .i64]
abbrev rw2 : PSh := .row [some .i64, some .i64]
def shE : List PSh := [rw2, fl, fl]
def Q : Int := 1099511627776
def vI (n : Nat) : SV := .int .i64 (.var n)
def vB (n : Nat) : SV := .bool (.tst (.var n))
def nB : List BE := bet (.var 0) 1 16
def okA : BE := .cmp .eql (.app 20 [.lit 0, .var 0]) (.lit 0)
def fB : List BE := [.cmp .geq (.var 1) (.lit 0), .cmp .lss (.var 1) (.var 0)]
def nilE : E := .app 1000 []
def z0 (n : Nat) : BE := .cmp .eql (.var n) (.lit 0)
def exA : List E := [.var 0]
def loopA (t : Nat) (kp : List Nat) (ct : CT) : LC := ⟨3, 1, [(t, vI 3)], [], kp, [(0, 16)], nB, [⟨.exit 0, 0, [], [], []⟩, ⟨.ret, 0, [(2, .int .i64 (.lit 2))], [], []⟩], ct, [z0 3], 20, [], [], exA, []⟩
def exL : List E := [.var 0, .var 2]
def lE : E := .app 31 ([.lit 0, .lit 0, nilE] ++ exL)
def cE : E := .app 32 ([.lit 0, .lit 0, nilE] ++ exL)
def lE3 : E := .app 31 ([.var 3, .var 4, .var 5] ++ exL)
def loopL (t r : Nat) (kp : List Nat) (ct : CT) : LC := ⟨3, 3, [(t, vI 3)], [], kp, [(0, 16), (0, 16)], nB ++ ([okA, .cmp .leq (.var 4) (.var 3)] : List BE), [⟨.exit 0, 2, [], [], [⟨r, [some .i64], 3, 4, 3⟩]⟩], ct,
  [z0 3, z0 4, .cmp .eql (.var 5) nilE], 30, [], [(lE3, 0, 16)], exL, [⟨r, [some .i64], 3, 5, 4⟩]⟩
def sE3 : E := .app 41 ([.var 3, .var 4] ++ exL)
def loopS (ct : CT) : LC := ⟨3, 2, [(6, vI 3), (5, vI 4)], [], [0, 1], [(0, 16), (0, 16)], nB ++ ([okA, .cmp .leq (.var 4) (.var 3)] : List BE), [⟨.exit 0, 1, [(5, vI 3)], [], []⟩], ct, [z0 3, z0 4], 40, [], [(sE3, 0, 16)], exL, []⟩
def shW : List (Bool × PSh) := [(true, rw2), (false, .row [some .i64]), (true, fl)]
def liWC : WC := ⟨19, shW, [.row [some .i64] 3], 60, [0, 2], nB ++ [okA], [], [(.app 61 [.var 0, .var 2], 0, 16)]⟩
def suWC : WC := ⟨21, shW, [.num (.int .i64 (.lit 0))], 65, [0, 2], nB ++ [okA], [], [(.app 65 [.var 0, .var 2], 0, 16)]⟩
def exF : List E := [.var 0, .var 1]
def facF : List BE := nB ++ fB ++ [okA]
def loopP (b : Nat) (ct : CT) : LC := ⟨3, 4, [(29, vI 3), (8, vB 6)], [(b, [vI 4, vI 5])], [0, 1, 4, 7, 27, 28], [(0, 16), (-1099511627776, 1099511627776), (-1099511627776, 1099511627776), (0, 1)], facF, [⟨.exit 0, 3, [(8, vB 5)], [(b, [vI 3, vI 4])], []⟩], ct,
  [z0 3, .cmp .eql (.var 4) (.lit 1099511627776), .cmp .eql (.var 5) (.lit (-1099511627776)), z0 6], 70, [], [], exF, []⟩
def loopR1 (b : Nat) (ct : CT) : LC := ⟨3, 3, [(9, vI 3), (7, vB 5)], [(b, [vI 4, .int .i64 (.lit 0)])], [0, 1, 4, 8], [(0, 16)], facF, [⟨.exit 0, 2, [(7, vB 4)], [(b, [vI 3, .int .i64 (.lit 0)])], []⟩], ct, [z0 3, z0 4, z0 5], 80, [], [], exF, []⟩
def loE : E := .app 81 ([.lit 0, .lit 0, .lit 0] ++ exF)
def loopR2 (b : Nat) (ct : CT) : LC := ⟨3, 3, [(11, vI 3), (10, vB 5)], [(b, [.int .i64 loE, vI 4])], [0, 1, 4, 7, 8], [(0, 16)], facF, [⟨.exit 2, 2, [(10, vB 4)], [(b, [.int .i64 loE, vI 3])], []⟩], ct, [z0 3, z0 4, z0 5], 90, [], [], exF, []⟩
def loopI (ct : CT) : LC := ⟨3, 1, [(5, vI 3)], [], [0, 1], [(0, 16)], bet lE 0 16, [⟨.exit 0, 0, [], [], []⟩, ⟨.ret, 0, [(4, .bool (.lit false))], [], []⟩], ct, [z0 3], 50, [], [], [lE], []⟩
def blkAt (tm : T SV) (t : Nat) : Option Nat := match tm.get t with | some (.ptr (some (.c b 0))) => some b | _ => none
def rowIn (t : Nat) (tm : T SV) (s : St) : Option (E × E) := match tm.get t with
  | some (.vg b N) => (match s.h.get b with
    | some (.vec _ code _ _) => some (code, N)
    | _ => none)
  | _ => none
def isL (p : E × E) : Bool := p.1.same cE && p.2.same lE
def loopsE (a a2 l l2 s p r1 r2 i : CT) : LBook := fun f id =>
  if f == 18 && id == 6 then some (fun _ _ => some (loopA 14 [0, 12, 13] a))
  else if f == 20 && id == 6 then some (fun _ _ => some (loopA 3 [0] a2))
  else if f == 19 && id == 3 then some (fun _ _ => some (loopL 10 5 [0, 1, 8, 9] l))
  else if f == 9 && id == 8 then some (fun _ _ => some (loopL 8 7 [0, 1] l2))
  else if f == 21 && id == 3 then some (fun _ _ => some (loopS s))
  else if f == 6 && id == 9 then some (fun tm _ => (blkAt tm 7).map fun b => loopP b p)
  else if f == 7 && id == 9 then some (fun tm _ => (blkAt tm 8).map fun b => loopR1 b r1)
  else if f == 7 && id == 16 then some (fun tm _ => (blkAt tm 8).map fun b => loopR2 b r2)
  else if f == 10 && id == 4 then some (fun tm s => (rowIn 0 tm s).bind fun p => (rowIn 1 tm s).bind fun q => bif isL p && isL q then some (loopI i) else none)
  else none
def wkFC : FC := ⟨5, [], .bool (.lit true), [], [], []⟩
def notX (l : List SV) : Bool := match l with
  | [_, .int _ (.var 2)] => false
  | _ => true
def XB (a a2 l l2 s p r1 r2 i : CT) : Par := { noPar with loops := loopsE a a2 l l2 s p r1 r2 i }
def XE (a a2 l l2 s p r1 r2 i : CT) : Par := wkFC.par (Par.onlyIf notX (liWC.par (suWC.par noPar)) (XB a a2 l l2 s p r1 r2 i))
def no : CT := .fail
def cA : CT := (.ite (.cmp .lss (.var 3) (.var 0)) (.ite (.cmp .leq (.lit (-1099511627776)) (.app 5000 [(.var 3)])) (.ite (.neg (.cmp .leq (.app 5000 [(.var 3)]) (.lit 1099511627776))) (.exit 1 []) (.ite (.cmp .leq (.lit (-1099511627776)) (.app 5001 [(.var 3)])) (.ite (.neg (.cmp .leq (.app 5001 [(.var 3)]) (.lit 1099511627776))) (.exit 1 []) (.ite (.cmp .gtr (.app 5000 [(.var 3)]) (.app 5001 [(.var 3)])) (.exit 1 []) (.again [(.op .add (.var 3) (.lit 1))]))) (.exit 1 []))) (.exit 1 [])) (.exit 0 []))
def cA2 : CT := (.ite (.cmp .lss (.var 3) (.var 0)) (.ite (.cmp .geq (.app 5000 [(.var 3)]) (.lit (-1099511627776))) (.ite (.cmp .leq (.app 5000 [(.var 3)]) (.lit 1099511627776)) (.ite (.cmp .geq (.app 5001 [(.var 3)]) (.lit (-1099511627776))) (.ite (.cmp .leq (.app 5001 [(.var 3)]) (.lit 1099511627776)) (.ite (.neg (.cmp .leq (.app 5000 [(.var 3)]) (.app 5001 [(.var 3)]))) (.exit 1 []) (.again [(.op .add (.var 3) (.lit 1))])) (.exit 1 [])) (.exit 1 [])) (.exit 1 [])) (.exit 1 [])) (.exit 0 []))
def cL : CT := (.ite (.cmp .lss (.var 3) (.var 0)) (.ite (.cmp .leq (.lit (-1099511627776)) (.app 5000 [(.var 3)])) (.ite (.neg (.cmp .leq (.app 5000 [(.var 3)]) (.lit 1099511627776))) (.again [(.op .add (.var 3) (.lit 1)), (.op .add (.var 4) (.lit 1)), (.app 1001 [(.var 5), (.var 3)])]) (.ite (.cmp .leq (.lit (-1099511627776)) (.app 5001 [(.var 3)])) (.ite (.neg (.cmp .leq (.app 5001 [(.var 3)]) (.lit 1099511627776))) (.again [(.op .add (.var 3) (.lit 1)), (.op .add (.var 4) (.lit 1)), (.app 1001 [(.var 5), (.var 3)])]) (.ite (.cmp .gtr (.app 5000 [(.var 3)]) (.app 5001 [(.var 3)])) (.again [(.op .add (.var 3) (.lit 1)), (.op .add (.var 4) (.lit 1)), (.app 1001 [(.var 5), (.var 3)])]) (.ite (.cmp .leq (.app 5000 [(.var 3)]) (.var 2)) (.ite (.neg (.cmp .leq (.var 2) (.app 5001 [(.var 3)]))) (.again [(.op .add (.var 3) (.lit 1)), (.op .add (.var 4) (.lit 1)), (.app 1001 [(.var 5), (.var 3)])]) (.again [(.op .add (.var 3) (.lit 1)), (.var 4), (.var 5)])) (.again [(.op .add (.var 3) (.lit 1)), (.op .add (.var 4) (.lit 1)), (.app 1001 [(.var 5), (.var 3)])])))) (.again [(.op .add (.var 3) (.lit 1)), (.op .add (.var 4) (.lit 1)), (.app 1001 [(.var 5), (.var 3)])]))) (.again [(.op .add (.var 3) (.lit 1)), (.op .add (.var 4) (.lit 1)), (.app 1001 [(.var 5), (.var 3)])])) (.exit 0 [(.var 4), (.var 5)]))
def cL2 : CT := (.ite (.cmp .lss (.var 3) (.var 0)) (.ite (.cmp .geq (.app 5000 [(.var 3)]) (.lit (-1099511627776))) (.ite (.cmp .leq (.app 5000 [(.var 3)]) (.lit 1099511627776)) (.ite (.cmp .geq (.app 5001 [(.var 3)]) (.lit (-1099511627776))) (.ite (.cmp .leq (.app 5001 [(.var 3)]) (.lit 1099511627776)) (.ite (.cmp .leq (.app 5000 [(.var 3)]) (.app 5001 [(.var 3)])) (.ite (.cmp .geq (.var 2) (.app 5000 [(.var 3)])) (.ite (.neg (.cmp .leq (.var 2) (.app 5001 [(.var 3)]))) (.again [(.op .add (.var 3) (.lit 1)), (.op .add (.var 4) (.lit 1)), (.app 1001 [(.var 5), (.var 3)])]) (.again [(.op .add (.var 3) (.lit 1)), (.var 4), (.var 5)])) (.again [(.op .add (.var 3) (.lit 1)), (.op .add (.var 4) (.lit 1)), (.app 1001 [(.var 5), (.var 3)])])) (.again [(.op .add (.var 3) (.lit 1)), (.op .add (.var 4) (.lit 1)), (.app 1001 [(.var 5), (.var 3)])])) (.again [(.op .add (.var 3) (.lit 1)), (.op .add (.var 4) (.lit 1)), (.app 1001 [(.var 5), (.var 3)])])) (.again [(.op .add (.var 3) (.lit 1)), (.op .add (.var 4) (.lit 1)), (.app 1001 [(.var 5), (.var 3)])])) (.again [(.op .add (.var 3) (.lit 1)), (.op .add (.var 4) (.lit 1)), (.app 1001 [(.var 5), (.var 3)])])) (.again [(.op .add (.var 3) (.lit 1)), (.op .add (.var 4) (.lit 1)), (.app 1001 [(.var 5), (.var 3)])])) (.exit 0 [(.var 4), (.var 5)]))
def cS : CT := (.ite (.cmp .lss (.var 3) (.var 0)) (.ite (.cmp .geq (.app 5000 [(.var 3)]) (.lit (-1099511627776))) (.ite (.cmp .leq (.app 5000 [(.var 3)]) (.lit 1099511627776)) (.ite (.cmp .geq (.app 5001 [(.var 3)]) (.lit (-1099511627776))) (.ite (.cmp .leq (.app 5001 [(.var 3)]) (.lit 1099511627776)) (.ite (.cmp .leq (.app 5000 [(.var 3)]) (.app 5001 [(.var 3)])) (.ite (.cmp .geq (.var 2) (.app 5000 [(.var 3)])) (.ite (.cmp .leq (.var 2) (.app 5001 [(.var 3)])) (.again [(.op .add (.var 3) (.lit 1)), (.op .add (.var 4) (.lit 1))]) (.again [(.op .add (.var 3) (.lit 1)), (.var 4)])) (.again [(.op .add (.var 3) (.lit 1)), (.var 4)])) (.again [(.op .add (.var 3) (.lit 1)), (.var 4)])) (.again [(.op .add (.var 3) (.lit 1)), (.var 4)])) (.again [(.op .add (.var 3) (.lit 1)), (.var 4)])) (.again [(.op .add (.var 3) (.lit 1)), (.var 4)])) (.again [(.op .add (.var 3) (.lit 1)), (.var 4)])) (.exit 0 [(.var 4)]))
def cP : CT := (.ite (.cmp .lss (.var 3) (.var 0)) (.ite (.cmp .leq (.app 61 [(.var 0), (.app 5000 [(.var 3)])]) (.var 1)) (.ite (.cmp .leq (.app 61 [(.var 0), (.app 5001 [(.var 3)])]) (.var 1)) (.again [(.op .add (.var 3) (.lit 1)), (.op .mn (.var 4) (.app 5000 [(.var 3)])), (.op .mx (.var 5) (.app 5001 [(.var 3)])), (.lit 1)]) (.again [(.op .add (.var 3) (.lit 1)), (.op .mn (.var 4) (.app 5000 [(.var 3)])), (.var 5), (.lit 1)])) (.ite (.cmp .leq (.app 61 [(.var 0), (.app 5001 [(.var 3)])]) (.var 1)) (.again [(.op .add (.var 3) (.lit 1)), (.var 4), (.op .mx (.var 5) (.app 5001 [(.var 3)])), (.lit 1)]) (.again [(.op .add (.var 3) (.lit 1)), (.var 4), (.var 5), (.ite (.var 6) (.lit 1) (.lit 0))]))) (.exit 0 [(.var 4), (.var 5), (.ite (.var 6) (.lit 1) (.lit 0))]))
def cR1 : CT := (.ite (.cmp .lss (.var 3) (.var 0)) (.ite (.cmp .geq (.app 65 [(.var 0), (.app 5000 [(.var 3)])]) (.op .sub (.var 0) (.var 1))) (.ite (.neg (.tst (.var 5))) (.again [(.op .add (.var 3) (.lit 1)), (.app 5000 [(.var 3)]), (.lit 1)]) (.ite (.cmp .lss (.app 5000 [(.var 3)]) (.var 4)) (.again [(.op .add (.var 3) (.lit 1)), (.app 5000 [(.var 3)]), (.lit 1)]) (.again [(.op .add (.var 3) (.lit 1)), (.var 4), (.ite (.var 5) (.lit 1) (.lit 0))]))) (.again [(.op .add (.var 3) (.lit 1)), (.var 4), (.ite (.var 5) (.lit 1) (.lit 0))])) (.exit 0 [(.var 4), (.ite (.var 5) (.lit 1) (.lit 0))]))
def cR2 : CT := (.ite (.cmp .lss (.var 3) (.var 0)) (.ite (.cmp .geq (.app 65 [(.var 0), (.app 5001 [(.var 3)])]) (.op .sub (.var 0) (.var 1))) (.ite (.neg (.tst (.var 5))) (.again [(.op .add (.var 3) (.lit 1)), (.app 5001 [(.var 3)]), (.lit 1)]) (.ite (.cmp .gtr (.app 5001 [(.var 3)]) (.var 4)) (.again [(.op .add (.var 3) (.lit 1)), (.app 5001 [(.var 3)]), (.lit 1)]) (.again [(.op .add (.var 3) (.lit 1)), (.var 4), (.ite (.var 5) (.lit 1) (.lit 0))]))) (.again [(.op .add (.var 3) (.lit 1)), (.var 4), (.ite (.var 5) (.lit 1) (.lit 0))])) (.exit 0 [(.var 4), (.ite (.var 5) (.lit 1) (.lit 0))]))
def cI : CT := (.ite (.cmp .lss (.var 3) (.app 31 [(.lit 0), (.lit 0), (.app 1000 []), (.var 0), (.var 2)])) (.again [(.op .add (.var 3) (.lit 1))]) (.exit 0 []))
theorem mixF : Try.prog.follows .mixedOrders = true := by kernel_rfl
abbrev Fn := Nat → List Int → Int
abbrev vAt (f : Fn) (j : Nat) : Prop := -1099511627776 ≤ f 5000 [(j : Int)] ∧ f 5000 [(j : Int)] ≤ 1099511627776 ∧ -1099511627776 ≤ f 5001 [(j : Int)] ∧ f 5001 [(j : Int)] ≤ 1099511627776 ∧ f 5000 [(j : Int)] ≤ f 5001 [(j : Int)]
def allV (f : Fn) (n : Int) : Prop := ∀ j : Nat, (j : Int) < n → vAt f j
abbrev hasAt (f : Fn) (x : Int) (j : Nat) : Prop := f 5000 [(j : Int)] ≤ x ∧ x ≤ f 5001 [(j : Int)]
/-- the liars -/
def lst (f : Fn) (x : Int) : Nat → List Int
  | 0 => []
  | n + 1 => if hasAt f x n then lst f x n else lst f x n ++ [(n : Int)]
def sup (f : Fn) (x : Int) : Nat → Nat
  | 0 => 0
  | n + 1 => if hasAt f x n then sup f x n + 1 else sup f x n
theorem lst_sup (f : Fn) (x : Int) : ∀ n, (lst f x n).length + sup f x n = n
  | 0 => rfl
  | n + 1 => by
      have := lst_sup f x n
      unfold lst sup
      split
      · omega
      · simp; omega
theorem sup_le (f : Fn) (x : Int) (n : Nat) : sup f x n ≤ n := by have := lst_sup f x n; omega
theorem lst_le (f : Fn) (x : Int) (n : Nat) : (lst f x n).length ≤ n := by have := lst_sup f x n; omega
theorem sup_mono {f : Fn} {x y : Int} : ∀ {n : Nat}, (∀ j, j < n → hasAt f x j → hasAt f y j) → sup f x n ≤ sup f y n
  | 0, _ => Nat.le_refl _
  | n + 1, h => by
      have ih := sup_mono (n := n) fun j hj => h j (by omega)
      unfold sup
      by_cases h1 : hasAt f x n
      · rw [if_pos h1, if_pos (h n (by omega) h1)]; omega
      · rw [if_neg h1]; split <;> omega
theorem sup_pos {f : Fn} {x : Int} : ∀ {n : Nat}, 0 < sup f x n → ∃ j, j < n ∧ hasAt f x j
  | 0, h => absurd h (Nat.lt_irrefl _)
  | n + 1, h => by
      by_cases h1 : hasAt f x n
      · exact ⟨n, by omega, h1⟩
      · unfold sup at h
        rw [if_neg h1] at h
        obtain ⟨j, hj, hh⟩ := sup_pos h
        exact ⟨j, by omega, hh⟩
/-- of some moments one has the least number -/
theorem least {v : Nat → Int} {S : Nat → Prop} : ∀ {n : Nat}, (∃ j, j < n ∧ S j) → ∃ k, k < n ∧ S k ∧ ∀ j, j < n → S j → v k ≤ v j
  | 0, ⟨j, h, _⟩ => absurd h (Nat.not_lt_zero _)
  | n + 1, ⟨j, hj, hs⟩ => by
      by_cases h : ∃ j, j < n ∧ S j
      · obtain ⟨k, hk, hs', hm⟩ := least (v := v) h
        by_cases h2 : S n ∧ v n < v k
        · refine ⟨n, by omega, h2.1, fun i hi hsi => ?_⟩
          by_cases hin : i = n
          · rw [hin]; exact Int.le_refl _
          · have := hm i (by omega) hsi; omega
        · refine ⟨k, by omega, hs', fun i hi hsi => ?_⟩
          by_cases hin : i = n
          · subst hin
            by_cases h3 : v i < v k
            · exact absurd ⟨hsi, h3⟩ h2
            · omega
          · exact hm i (by omega) hsi
      · have hjn : j = n := by
          by_cases hlt : j < n
          · exact absurd ⟨j, hlt, hs⟩ h
          · omega
        subst hjn
        refine ⟨j, by omega, hs, fun i hi hsi => ?_⟩
        by_cases hin : i = j
        · rw [hin]; exact Int.le_refl _
        · exact absurd ⟨i, by omega, hsi⟩ h
/-- few enough lie -/
abbrev gd (f : Fn) (n : Nat) (m x : Int) : Prop := ((lst f x n).length : Int) ≤ m
theorem helly1 {f : Fn} {n : Nat} {m : Int} (hV : ∀ j, j < n → vAt f j) (hm : m < n) {x : Int} (h : gd f n m x) : ∃ k, k < n ∧ gd f n m (f 5001 [(k : Int)]) := by
  have h1 := lst_sup f x n
  obtain ⟨j, hj, hh⟩ := sup_pos (f := f) (x := x) (n := n) (by unfold gd at h; omega)
  obtain ⟨k, hk, hs, hmin⟩ := least (v := fun j => f 5001 [(j : Int)]) (S := hasAt f x) ⟨j, hj, hh⟩
  refine ⟨k, hk, ?_⟩
  have h2 := lst_sup f (f 5001 [(k : Int)]) n
  have h3 := sup_mono (f := f) (x := x) (y := f 5001 [(k : Int)]) (n := n) fun j hj hh => ⟨by have := hs.2; have := hh.1; omega, hmin j hj hh⟩
  unfold gd at h ⊢
  omega
theorem helly2 {f : Fn} {n : Nat} {m : Int} (hV : ∀ j, j < n → vAt f j) (hm : m < n) {x : Int} (h : gd f n m x) : ∃ k, k < n ∧ gd f n m (f 5000 [(k : Int)]) := by
  have h1 := lst_sup f x n
  obtain ⟨j, hj, hh⟩ := sup_pos (f := f) (x := x) (n := n) (by unfold gd at h; omega)
  obtain ⟨k, hk, hs, hmin⟩ := least (v := fun j => 0 - f 5000 [(j : Int)]) (S := hasAt f x) ⟨j, hj, hh⟩
  refine ⟨k, hk, ?_⟩
  have h2 := lst_sup f (f 5000 [(k : Int)]) n
  have h3 := sup_mono (f := f) (x := x) (y := f 5000 [(k : Int)]) (n := n) fun j hj hh => ⟨by have := hmin j hj hh; omega, by have := hs.1; have := hh.2; omega⟩
  unfold gd at h ⊢
  omega
/-! the program's ends -/
def pLo (f : Fn) (n : Nat) (m : Int) : Nat → Int
  | 0 => 1099511627776
  | i + 1 => if gd f n m (f 5000 [(i : Int)]) then min (pLo f n m i) (f 5000 [(i : Int)]) else pLo f n m i
def pHi (f : Fn) (n : Nat) (m : Int) : Nat → Int
  | 0 => -1099511627776
  | i + 1 => if gd f n m (f 5001 [(i : Int)]) then max (pHi f n m i) (f 5001 [(i : Int)]) else pHi f n m i
def pF (f : Fn) (n : Nat) (m : Int) : Nat → Int
  | 0 => 0
  | i + 1 => if gd f n m (f 5000 [(i : Int)]) ∨ gd f n m (f 5001 [(i : Int)]) then 1 else pF f n m i
/-! the other ones -/
def rLo (f : Fn) (n : Nat) (m : Int) : Nat → Int × Int
  | 0 => (0, 0)
  | i + 1 => if gd f n m (f 5000 [(i : Int)]) ∧ ((rLo f n m i).2 = 0 ∨ f 5000 [(i : Int)] < (rLo f n m i).1) then (f 5000 [(i : Int)], 1) else rLo f n m i
def rHi (f : Fn) (n : Nat) (m : Int) : Nat → Int × Int
  | 0 => (0, 0)
  | i + 1 => if gd f n m (f 5001 [(i : Int)]) ∧ ((rHi f n m i).2 = 0 ∨ (rHi f n m i).1 < f 5001 [(i : Int)]) then (f 5001 [(i : Int)], 1) else rHi f n m i
theorem pF_is (f : Fn) (n : Nat) (m : Int) : ∀ i, pF f n m i = 0 ∨ pF f n m i = 1
  | 0 => .inl rfl
  | i + 1 => by unfold pF; split; exact .inr rfl; exact pF_is f n m i
theorem rLo_is (f : Fn) (n : Nat) (m : Int) : ∀ i, (rLo f n m i).2 = 0 ∨ (rLo f n m i).2 = 1
  | 0 => .inl rfl
  | i + 1 => by unfold rLo; split; exact .inr rfl; exact rLo_is f n m i
theorem rHi_is (f : Fn) (n : Nat) (m : Int) : ∀ i, (rHi f n m i).2 = 0 ∨ (rHi f n m i).2 = 1
  | 0 => .inl rfl
  | i + 1 => by unfold rHi; split; exact .inr rfl; exact rHi_is f n m i
theorem pLo_bd {f : Fn} {n : Nat} {m : Int} (hV : ∀ j, j < n → vAt f j) : ∀ {i}, i ≤ n → -1099511627776 ≤ pLo f n m i ∧ pLo f n m i ≤ 1099511627776
  | 0, _ => by unfold pLo; omega
  | i + 1, h => by
      have ih := pLo_bd (m := m) hV (i := i) (by omega)
      have := hV i (by omega)
      unfold pLo
      split <;> omega
theorem pHi_bd {f : Fn} {n : Nat} {m : Int} (hV : ∀ j, j < n → vAt f j) : ∀ {i}, i ≤ n → -1099511627776 ≤ pHi f n m i ∧ pHi f n m i ≤ 1099511627776
  | 0, _ => by unfold pHi; omega
  | i + 1, h => by
      have ih := pHi_bd (m := m) hV (i := i) (by omega)
      have := hV i (by omega)
      unfold pHi
      split <;> omega
theorem lo_same {f : Fn} {n : Nat} {m : Int} (hV : ∀ j, j < n → vAt f j) : ∀ {i}, i ≤ n →
    ((rLo f n m i).2 = 0 ∧ pLo f n m i = 1099511627776 ∧ ∀ j, j < i → ¬ gd f n m (f 5000 [(j : Int)])) ∨ ((rLo f n m i).2 = 1 ∧ (rLo f n m i).1 = pLo f n m i ∧ ∃ j, j < i ∧ gd f n m (f 5000 [(j : Int)]))
  | 0, _ => .inl ⟨rfl, rfl, fun j hj => absurd hj (Nat.not_lt_zero _)⟩
  | i + 1, h => by
      have ih := lo_same (m := m) hV (i := i) (by omega)
      have hv := hV i (by omega)
      by_cases g : gd f n m (f 5000 [(i : Int)])
      · refine .inr ?_
        unfold rLo pLo
        rw [if_pos g]
        rcases ih with ⟨a, b, c⟩ | ⟨a, b, j, hj, hg⟩
        · rw [if_pos ⟨g, .inl a⟩]
          exact ⟨rfl, by simp only; omega, i, by omega, g⟩
        · by_cases hc : f 5000 [(i : Int)] < (rLo f n m i).1
          · rw [if_pos ⟨g, .inr hc⟩]
            exact ⟨rfl, by simp only; omega, i, by omega, g⟩
          · rw [if_neg (fun z => by rcases z.2 with z | z <;> omega)]
            exact ⟨a, by omega, i, by omega, g⟩
      · unfold rLo pLo
        rw [if_neg g, if_neg (fun z => g z.1)]
        rcases ih with ⟨a, b, c⟩ | ⟨a, b, j, hj, hg⟩
        · refine .inl ⟨a, b, fun j hj => ?_⟩
          by_cases hji : j = i
          · rw [hji]; exact g
          · exact c j (by omega)
        · exact .inr ⟨a, b, j, by omega, hg⟩
theorem hi_same {f : Fn} {n : Nat} {m : Int} (hV : ∀ j, j < n → vAt f j) : ∀ {i}, i ≤ n →
    ((rHi f n m i).2 = 0 ∧ pHi f n m i = -1099511627776 ∧ ∀ j, j < i → ¬ gd f n m (f 5001 [(j : Int)])) ∨ ((rHi f n m i).2 = 1 ∧ (rHi f n m i).1 = pHi f n m i ∧ ∃ j, j < i ∧ gd f n m (f 5001 [(j : Int)]))
  | 0, _ => .inl ⟨rfl, rfl, fun j hj => absurd hj (Nat.not_lt_zero _)⟩
  | i + 1, h => by
      have ih := hi_same (m := m) hV (i := i) (by omega)
      have hv := hV i (by omega)
      by_cases g : gd f n m (f 5001 [(i : Int)])
      · refine .inr ?_
        unfold rHi pHi
        rw [if_pos g]
        rcases ih with ⟨a, b, c⟩ | ⟨a, b, j, hj, hg⟩
        · rw [if_pos ⟨g, .inl a⟩]
          exact ⟨rfl, by simp only; omega, i, by omega, g⟩
        · by_cases hc : (rHi f n m i).1 < f 5001 [(i : Int)]
          · rw [if_pos ⟨g, .inr hc⟩]
            exact ⟨rfl, by simp only; omega, i, by omega, g⟩
          · rw [if_neg (fun z => by rcases z.2 with z | z <;> omega)]
            exact ⟨a, by omega, i, by omega, g⟩
      · unfold rHi pHi
        rw [if_neg g, if_neg (fun z => g z.1)]
        rcases ih with ⟨a, b, c⟩ | ⟨a, b, j, hj, hg⟩
        · refine .inl ⟨a, b, fun j hj => ?_⟩
          by_cases hji : j = i
          · rw [hji]; exact g
          · exact c j (by omega)
        · exact .inr ⟨a, b, j, by omega, hg⟩
theorem pF_one {f : Fn} {n : Nat} {m : Int} : ∀ {i : Nat}, (∃ j : Nat, j < i ∧ (gd f n m (f 5000 [(j : Int)]) ∨ gd f n m (f 5001 [(j : Int)]))) → pF f n m i = 1
  | 0, ⟨j, hj, _⟩ => absurd hj (Nat.not_lt_zero _)
  | i + 1, ⟨j, hj, hg⟩ => by
      unfold pF
      split
      · rfl
      · rename_i hn
        refine pF_one ⟨j, ?_, hg⟩
        by_cases hji : j = i
        · rw [hji] at hg; exact absurd hg hn
        · omega
theorem pF_zero {f : Fn} {n : Nat} {m : Int} : ∀ {i : Nat}, (∀ j : Nat, j < i → ¬ gd f n m (f 5000 [(j : Int)]) ∧ ¬ gd f n m (f 5001 [(j : Int)])) → pF f n m i = 0
  | 0, _ => rfl
  | i + 1, h => by
      unfold pF
      rw [if_neg (fun z => z.elim (h i (by omega)).1 (h i (by omega)).2)]
      exact pF_zero fun j hj => h j (by omega)
/-- what both find -/
theorem found {f : Fn} {n : Nat} {m : Int} (hV : ∀ j, j < n → vAt f j) (hm : m < n) :
    (pF f n m n = 1 ∧ (rLo f n m n).2 = 1 ∧ (rHi f n m n).2 = 1 ∧ (rLo f n m n).1 = pLo f n m n ∧ (rHi f n m n).1 = pHi f n m n) ∨ (pF f n m n = 0 ∧ (rLo f n m n).2 = 0 ∧ (rHi f n m n).2 = 0) := by
  rcases lo_same (m := m) hV (Nat.le_refl n) with ⟨a, b, c⟩ | ⟨a, b, j, hj, hg⟩
  · rcases hi_same (m := m) hV (Nat.le_refl n) with ⟨a', b', c'⟩ | ⟨a', b', j, hj, hg⟩
    · exact .inr ⟨pF_zero fun j hj => ⟨c j hj, c' j hj⟩, a, a'⟩
    · obtain ⟨k, hk, hg'⟩ := helly2 hV hm hg
      exact absurd hg' (c k hk)
  · rcases hi_same (m := m) hV (Nat.le_refl n) with ⟨a', b', c'⟩ | ⟨a', b', j', hj', hg'⟩
    · obtain ⟨k, hk, hg'⟩ := helly1 hV hm hg
      exact absurd hg' (c' k hk)
    · exact .inl ⟨pF_one ⟨j, hj, .inl hg⟩, a, a', b, b'⟩
open Classical in
noncomputable def bfn (g : Fn) : Fn := fun k a => match k, a with
  | 20, [i, n] => if allV g n then 0 else 1
  | 30, [i, l, c, n, x] => 0
  | 31, [i, l, c, n, x] => ((lst g x n.toNat).length : Int)
  | 32, [i, l, c, n, x] => enc (lst g x n.toNat)
  | 40, [i, c, n, x] => 0
  | 41, [i, c, n, x] => (sup g x n.toNat : Int)
  | 50, [i, l] => 0
  | 60, [n, x] => enc (lst g x n.toNat)
  | 61, [n, x] => ((lst g x n.toNat).length : Int)
  | 65, [n, x] => (sup g x n.toNat : Int)
  | 70, [i, a, b, c, n, m] => 0
  | 71, [i, a, b, c, n, m] => pLo g n.toNat m n.toNat
  | 72, [i, a, b, c, n, m] => pHi g n.toNat m n.toNat
  | 73, [i, a, b, c, n, m] => pF g n.toNat m n.toNat
  | 80, [i, a, b, n, m] => 0
  | 81, [i, a, b, n, m] => (rLo g n.toNat m n.toNat).1
  | 82, [i, a, b, n, m] => (rLo g n.toNat m n.toNat).2
  | 90, [i, a, b, n, m] => 0
  | 91, [i, a, b, n, m] => (rHi g n.toNat m n.toNat).1
  | 92, [i, a, b, n, m] => (rHi g n.toNat m n.toNat).2
  | k, a => g k a
open Classical in
structure Good (f : Fn) : Prop where
  rows : RowFn f
  h20 : ∀ i n, f 20 [i, n] = if allV f n then 0 else 1
  h30 : ∀ i l c n x, f 30 [i, l, c, n, x] = 0
  h31 : ∀ i l c n x, f 31 [i, l, c, n, x] = ((lst f x n.toNat).length : Int)
  h32 : ∀ i l c n x, f 32 [i, l, c, n, x] = enc (lst f x n.toNat)
  h40 : ∀ i c n x, f 40 [i, c, n, x] = 0
  h41 : ∀ i c n x, f 41 [i, c, n, x] = (sup f x n.toNat : Int)
  h50 : ∀ i l, f 50 [i, l] = 0
  h60 : ∀ n x, f 60 [n, x] = enc (lst f x n.toNat)
  h61 : ∀ n x, f 61 [n, x] = ((lst f x n.toNat).length : Int)
  h65 : ∀ n x, f 65 [n, x] = (sup f x n.toNat : Int)
  h70 : ∀ i a b c n m, f 70 [i, a, b, c, n, m] = 0
  h71 : ∀ i a b c n m, f 71 [i, a, b, c, n, m] = pLo f n.toNat m n.toNat
  h72 : ∀ i a b c n m, f 72 [i, a, b, c, n, m] = pHi f n.toNat m n.toNat
  h73 : ∀ i a b c n m, f 73 [i, a, b, c, n, m] = pF f n.toNat m n.toNat
  h80 : ∀ i a b n m, f 80 [i, a, b, n, m] = 0
  h81 : ∀ i a b n m, f 81 [i, a, b, n, m] = (rLo f n.toNat m n.toNat).1
  h82 : ∀ i a b n m, f 82 [i, a, b, n, m] = (rLo f n.toNat m n.toNat).2
  h90 : ∀ i a b n m, f 90 [i, a, b, n, m] = 0
  h91 : ∀ i a b n m, f 91 [i, a, b, n, m] = (rHi f n.toNat m n.toNat).1
  h92 : ∀ i a b n m, f 92 [i, a, b, n, m] = (rHi f n.toNat m n.toNat).2
theorem bfn_high (g : Fn) (k : Nat) (a : List Int) (h : 1000 ≤ k) : bfn g k a = g k a := by
  unfold bfn
  split <;> first | omega | rfl
theorem good_of (g : Fn) (hg : RowFn g) : Good (bfn g) := by
  have e0 : ∀ a, bfn g 5000 a = g 5000 a := fun a => bfn_high g _ a (by decide)
  have e1 : ∀ a, bfn g 5001 a = g 5001 a := fun a => bfn_high g _ a (by decide)
  have ev : ∀ n, allV (bfn g) n = allV g n := fun n => by unfold allV vAt; simp only [e0, e1]
  have el : ∀ x n, lst (bfn g) x n = lst g x n := fun x n => by
    induction n with
    | zero => rfl
    | succ n ih => unfold lst hasAt; rw [ih, e0, e1]
  have es : ∀ x n, sup (bfn g) x n = sup g x n := fun x n => by
    induction n with
    | zero => rfl
    | succ n ih => unfold sup hasAt; rw [ih, e0, e1]
  have eg : ∀ n m x, gd (bfn g) n m x = gd g n m x := fun n m x => by unfold gd; rw [el]
  have p1 : ∀ n m i, pLo (bfn g) n m i = pLo g n m i := fun n m i => by
    induction i with
    | zero => rfl
    | succ i ih => unfold pLo gd; rw [ih, e0, el]
  have p2 : ∀ n m i, pHi (bfn g) n m i = pHi g n m i := fun n m i => by
    induction i with
    | zero => rfl
    | succ i ih => unfold pHi gd; rw [ih, e1, el]
  have p3 : ∀ n m i, pF (bfn g) n m i = pF g n m i := fun n m i => by
    induction i with
    | zero => rfl
    | succ i ih => unfold pF gd; rw [ih, e0, e1, el, el]
  have p4 : ∀ n m i, rLo (bfn g) n m i = rLo g n m i := fun n m i => by
    induction i with
    | zero => rfl
    | succ i ih => unfold rLo gd; rw [ih, e0, el]
  have p5 : ∀ n m i, rHi (bfn g) n m i = rHi g n m i := fun n m i => by
    induction i with
    | zero => rfl
    | succ i ih => unfold rHi gd; rw [ih, e1, el]
  exact ⟨fun k a h1 h2 => by rw [bfn_high g k a h1]; exact hg k a h1 h2, fun i n => by rw [ev]; rfl, fun _ _ _ _ _ => rfl, fun i l c n x => by rw [el]; rfl, fun i l c n x => by rw [el]; rfl, fun _ _ _ _ => rfl, fun i c n x => by rw [es]; rfl, fun _ _ => rfl,
    fun n x => by rw [el]; rfl, fun n x => by rw [el]; rfl, fun n x => by rw [es]; rfl, fun _ _ _ _ _ _ => rfl, fun i a b c n m => by rw [p1]; rfl, fun i a b c n m => by rw [p2]; rfl, fun i a b c n m => by rw [p3]; rfl,
    fun _ _ _ _ _ => rfl, fun i a b n m => by rw [p4]; rfl, fun i a b n m => by rw [p4]; rfl, fun _ _ _ _ _ => rfl, fun i a b n m => by rw [p5]; rfl, fun i a b n m => by rw [p5]; rfl⟩
end Go.Proofs.Ytkdmnjpkimnmbaa
