/- Fused spans: with more liars the span is not smaller; with none it is the meeting. -/
import Derived.Test.YtkdmnjpkimnmbaaFc
namespace Go.Proofs.Ytkdmnjpkimnmbaa
open Go Go.SX Go.RowKit
set_option linter.unusedVariables false
set_option linter.unusedSimpArgs false
set_option maxRecDepth 100000
set_option maxHeartbeats 4000000
def shL2 : List (Bool × PSh) := [(true, rw2), (false, .row [some .i64]), (true, fl)]
def shF2 : List (Bool × PSh) := [(true, rw2), (true, fl), (false, .row [some .i64])]
def xB (v : Nat) : List BE := bet (.var v) (-1099511627776) 1099511627776
def LiWC : WC := ⟨8, shL2, [.row [some .i64] 3, .num (.int .i64 (.lit 0))], 100, [0, 2], nB ++ [okA] ++ xB 2, [], [(.app 101 [.var 0, .var 2], 0, 16), (.app 102 [.var 0, .var 2], 0, 0)]⟩
def FuWC : WC := ⟨6, shF2, [.num (.agg [.int .i64 (.lit 0), .int .i64 (.lit 0)]), .num (.int .i64 (.lit 0))], 110, [0, 1], facF, [], [(.app 110 [.var 0, .var 1], -1099511627776, 1099511627776), (.app 111 [.var 0, .var 1], -1099511627776, 1099511627776), (.app 112 [.var 0, .var 1], 0, 5)]⟩
def loopM (b : Nat) (ct : CT) : LC := ⟨2, 4, [(7, vI 2), (6, vB 5)], [(b, [vI 3, vI 4])], [0, 1, 5], [(0, 16)], nB, [⟨.exit 0, 3, [(6, vB 4)], [(b, [vI 2, vI 3])], []⟩, ⟨.ret, 2, [(4, .bool (.lit true))], [(b, [vI 2, vI 3])], []⟩], ct,
  [z0 2, .cmp .eql (.var 3) (.app 5000 [.lit 0]), .cmp .eql (.var 4) (.app 5001 [.lit 0]), .cmp .eql (.var 5) (.lit 1)], 120, [], [], [.var 0], []⟩
def loopD (b : Nat) (ct : CT) : LC := ⟨2, 4, [(14, vI 2), (13, vB 5)], [(b, [vI 3, vI 4])], [0, 1, 5, 6, 10, 12], [(0, 16)], nB ++ [okA] ++ xB 1, [⟨.exit 2, 2, [], [(b, [vI 2, vI 3])], []⟩, ⟨.ret, 2, [(4, .bool (.lit false))], [(b, [vI 2, vI 3])], []⟩], ct,
  [z0 2, z0 3, z0 4, z0 5], 130, [], [], [.var 0, .var 1], []⟩
def loopsD (m d : CT) : LBook := fun f id => if f == 4 && id == 6 then some (fun tm _ => (blkAt tm 5).map fun b => loopM b m) else if f == 4 && id == 20 then some (fun tm _ => (blkAt tm 12).map fun b => loopD b d) else none
def XD (m d : CT) : Par := wkFC.par (LiWC.par (FuWC.par { noPar with loops := loopsD m d }))
def cM : CT := (.ite (.cmp .lss (.var 2) (.var 0)) (.ite (.cmp .geq (.app 5000 [(.var 2)]) (.lit (-1099511627776))) (.ite (.cmp .leq (.app 5000 [(.var 2)]) (.lit 1099511627776)) (.ite (.cmp .geq (.app 5001 [(.var 2)]) (.lit (-1099511627776))) (.ite (.cmp .leq (.app 5001 [(.var 2)]) (.lit 1099511627776)) (.ite (.neg (.cmp .leq (.app 5000 [(.var 2)]) (.app 5001 [(.var 2)]))) (.exit 1 [(.var 3), (.var 4)]) (.ite (.cmp .leq (.lit (-1099511627776)) (.var 3)) (.ite (.neg (.cmp .leq (.var 3) (.lit 1099511627776))) (.ite (.tst (.var 5)) (.again [(.op .add (.var 2) (.lit 1)), (.var 3), (.var 4), (.lit 0)]) (.again [(.op .add (.var 2) (.lit 1)), (.var 3), (.var 4), (.lit 0)])) (.ite (.cmp .leq (.lit (-1099511627776)) (.var 4)) (.ite (.neg (.cmp .leq (.var 4) (.lit 1099511627776))) (.ite (.tst (.var 5)) (.again [(.op .add (.var 2) (.lit 1)), (.var 3), (.var 4), (.lit 0)]) (.again [(.op .add (.var 2) (.lit 1)), (.var 3), (.var 4), (.lit 0)])) (.ite (.cmp .gtr (.var 3) (.var 4)) (.ite (.tst (.var 5)) (.again [(.op .add (.var 2) (.lit 1)), (.var 3), (.var 4), (.lit 0)]) (.again [(.op .add (.var 2) (.lit 1)), (.var 3), (.var 4), (.lit 0)])) (.ite (.cmp .gtr (.op .mx (.var 3) (.app 5000 [(.var 2)])) (.op .mn (.var 4) (.app 5001 [(.var 2)]))) (.ite (.tst (.var 5)) (.again [(.op .add (.var 2) (.lit 1)), (.var 3), (.var 4), (.lit 0)]) (.again [(.op .add (.var 2) (.lit 1)), (.var 3), (.var 4), (.lit 0)])) (.ite (.tst (.var 5)) (.again [(.op .add (.var 2) (.lit 1)), (.op .mx (.var 3) (.app 5000 [(.var 2)])), (.op .mn (.var 4) (.app 5001 [(.var 2)])), (.lit 1)]) (.again [(.op .add (.var 2) (.lit 1)), (.var 3), (.var 4), (.lit 0)]))))) (.ite (.tst (.var 5)) (.again [(.op .add (.var 2) (.lit 1)), (.var 3), (.var 4), (.lit 0)]) (.again [(.op .add (.var 2) (.lit 1)), (.var 3), (.var 4), (.lit 0)])))) (.ite (.tst (.var 5)) (.again [(.op .add (.var 2) (.lit 1)), (.var 3), (.var 4), (.lit 0)]) (.again [(.op .add (.var 2) (.lit 1)), (.var 3), (.var 4), (.lit 0)])))) (.exit 1 [(.var 3), (.var 4)])) (.exit 1 [(.var 3), (.var 4)])) (.exit 1 [(.var 3), (.var 4)])) (.exit 1 [(.var 3), (.var 4)])) (.exit 0 [(.var 3), (.var 4), (.ite (.var 5) (.lit 1) (.lit 0))]))
def cD : CT := (.ite (.cmp .lss (.var 2) (.var 0)) (.ite (.cmp .neq (.app 112 [(.var 0), (.var 2)]) (.lit 0)) (.ite (.cmp .neq (.app 112 [(.var 0), (.var 2)]) (.lit 5)) (.exit 1 [(.var 3), (.var 4)]) (.ite (.tst (.var 5)) (.exit 1 [(.var 3), (.var 4)]) (.ite (.cmp .geq (.var 2) (.app 101 [(.var 0), (.var 1)])) (.ite (.cmp .gtr (.app 110 [(.var 0), (.var 2)]) (.app 111 [(.var 0), (.var 2)])) (.exit 1 [(.var 3), (.var 4)]) (.ite (.cmp .leq (.app 110 [(.var 0), (.var 2)]) (.var 1)) (.ite (.neg (.cmp .leq (.var 1) (.app 111 [(.var 0), (.var 2)]))) (.exit 1 [(.var 3), (.var 4)]) (.ite (.cmp .eql (.var 2) (.lit 0)) (.ite (.tst (.app 123 [(.lit 0), (.app 5000 [(.lit 0)]), (.app 5001 [(.lit 0)]), (.lit 1), (.var 0)])) (.exit 1 [(.var 3), (.var 4)]) (.again [(.op .add (.var 2) (.lit 1)), (.app 110 [(.var 0), (.var 2)]), (.app 111 [(.var 0), (.var 2)]), (.lit 0)])) (.again [(.op .add (.var 2) (.lit 1)), (.app 110 [(.var 0), (.var 2)]), (.app 111 [(.var 0), (.var 2)]), (.lit 0)]))) (.exit 1 [(.var 3), (.var 4)]))) (.ite (.cmp .eql (.var 2) (.lit 0)) (.ite (.tst (.app 123 [(.lit 0), (.app 5000 [(.lit 0)]), (.app 5001 [(.lit 0)]), (.lit 1), (.var 0)])) (.exit 1 [(.var 3), (.var 4)]) (.again [(.op .add (.var 2) (.lit 1)), (.app 110 [(.var 0), (.var 2)]), (.app 111 [(.var 0), (.var 2)]), (.lit 0)])) (.again [(.op .add (.var 2) (.lit 1)), (.app 110 [(.var 0), (.var 2)]), (.app 111 [(.var 0), (.var 2)]), (.lit 0)]))))) (.ite (.tst (.var 5)) (.ite (.cmp .leq (.lit (-1099511627776)) (.var 3)) (.ite (.neg (.cmp .leq (.var 3) (.lit 1099511627776))) (.exit 1 [(.var 3), (.var 4)]) (.ite (.cmp .leq (.lit (-1099511627776)) (.var 4)) (.ite (.neg (.cmp .leq (.var 4) (.lit 1099511627776))) (.exit 1 [(.var 3), (.var 4)]) (.ite (.cmp .gtr (.var 3) (.var 4)) (.exit 1 [(.var 3), (.var 4)]) (.ite (.cmp .gtr (.app 110 [(.var 0), (.var 2)]) (.app 111 [(.var 0), (.var 2)])) (.exit 1 [(.var 3), (.var 4)]) (.ite (.cmp .leq (.app 110 [(.var 0), (.var 2)]) (.var 3)) (.ite (.cmp .leq (.var 3) (.app 111 [(.var 0), (.var 2)])) (.ite (.cmp .leq (.app 110 [(.var 0), (.var 2)]) (.var 4)) (.ite (.neg (.cmp .leq (.var 4) (.app 111 [(.var 0), (.var 2)]))) (.exit 1 [(.var 3), (.var 4)]) (.ite (.cmp .geq (.var 2) (.app 101 [(.var 0), (.var 1)])) (.ite (.cmp .leq (.app 110 [(.var 0), (.var 2)]) (.var 1)) (.ite (.neg (.cmp .leq (.var 1) (.app 111 [(.var 0), (.var 2)]))) (.exit 1 [(.var 3), (.var 4)]) (.ite (.cmp .eql (.var 2) (.lit 0)) (.ite (.neg (.tst (.app 123 [(.lit 0), (.app 5000 [(.lit 0)]), (.app 5001 [(.lit 0)]), (.lit 1), (.var 0)]))) (.exit 1 [(.var 3), (.var 4)]) (.ite (.neg (.and (.cmp .eql (.app 110 [(.var 0), (.var 2)]) (.app 121 [(.lit 0), (.app 5000 [(.lit 0)]), (.app 5001 [(.lit 0)]), (.lit 1), (.var 0)])) (.cmp .eql (.app 111 [(.var 0), (.var 2)]) (.app 122 [(.lit 0), (.app 5000 [(.lit 0)]), (.app 5001 [(.lit 0)]), (.lit 1), (.var 0)])))) (.exit 1 [(.var 3), (.var 4)]) (.again [(.op .add (.var 2) (.lit 1)), (.app 110 [(.var 0), (.var 2)]), (.app 111 [(.var 0), (.var 2)]), (.lit 1)]))) (.again [(.op .add (.var 2) (.lit 1)), (.app 110 [(.var 0), (.var 2)]), (.app 111 [(.var 0), (.var 2)]), (.lit 1)]))) (.exit 1 [(.var 3), (.var 4)])) (.ite (.cmp .eql (.var 2) (.lit 0)) (.ite (.neg (.tst (.app 123 [(.lit 0), (.app 5000 [(.lit 0)]), (.app 5001 [(.lit 0)]), (.lit 1), (.var 0)]))) (.exit 1 [(.var 3), (.var 4)]) (.ite (.neg (.and (.cmp .eql (.app 110 [(.var 0), (.var 2)]) (.app 121 [(.lit 0), (.app 5000 [(.lit 0)]), (.app 5001 [(.lit 0)]), (.lit 1), (.var 0)])) (.cmp .eql (.app 111 [(.var 0), (.var 2)]) (.app 122 [(.lit 0), (.app 5000 [(.lit 0)]), (.app 5001 [(.lit 0)]), (.lit 1), (.var 0)])))) (.exit 1 [(.var 3), (.var 4)]) (.again [(.op .add (.var 2) (.lit 1)), (.app 110 [(.var 0), (.var 2)]), (.app 111 [(.var 0), (.var 2)]), (.lit 1)]))) (.again [(.op .add (.var 2) (.lit 1)), (.app 110 [(.var 0), (.var 2)]), (.app 111 [(.var 0), (.var 2)]), (.lit 1)])))) (.exit 1 [(.var 3), (.var 4)])) (.exit 1 [(.var 3), (.var 4)])) (.exit 1 [(.var 3), (.var 4)]))))) (.exit 1 [(.var 3), (.var 4)]))) (.exit 1 [(.var 3), (.var 4)])) (.ite (.cmp .geq (.var 2) (.app 101 [(.var 0), (.var 1)])) (.ite (.cmp .gtr (.app 110 [(.var 0), (.var 2)]) (.app 111 [(.var 0), (.var 2)])) (.exit 1 [(.var 3), (.var 4)]) (.ite (.cmp .leq (.app 110 [(.var 0), (.var 2)]) (.var 1)) (.ite (.neg (.cmp .leq (.var 1) (.app 111 [(.var 0), (.var 2)]))) (.exit 1 [(.var 3), (.var 4)]) (.ite (.cmp .eql (.var 2) (.lit 0)) (.ite (.neg (.tst (.app 123 [(.lit 0), (.app 5000 [(.lit 0)]), (.app 5001 [(.lit 0)]), (.lit 1), (.var 0)]))) (.exit 1 [(.var 3), (.var 4)]) (.ite (.neg (.and (.cmp .eql (.app 110 [(.var 0), (.var 2)]) (.app 121 [(.lit 0), (.app 5000 [(.lit 0)]), (.app 5001 [(.lit 0)]), (.lit 1), (.var 0)])) (.cmp .eql (.app 111 [(.var 0), (.var 2)]) (.app 122 [(.lit 0), (.app 5000 [(.lit 0)]), (.app 5001 [(.lit 0)]), (.lit 1), (.var 0)])))) (.exit 1 [(.var 3), (.var 4)]) (.again [(.op .add (.var 2) (.lit 1)), (.app 110 [(.var 0), (.var 2)]), (.app 111 [(.var 0), (.var 2)]), (.lit 1)]))) (.again [(.op .add (.var 2) (.lit 1)), (.app 110 [(.var 0), (.var 2)]), (.app 111 [(.var 0), (.var 2)]), (.lit 1)]))) (.exit 1 [(.var 3), (.var 4)]))) (.ite (.cmp .eql (.var 2) (.lit 0)) (.ite (.neg (.tst (.app 123 [(.lit 0), (.app 5000 [(.lit 0)]), (.app 5001 [(.lit 0)]), (.lit 1), (.var 0)]))) (.exit 1 [(.var 3), (.var 4)]) (.ite (.neg (.and (.cmp .eql (.app 110 [(.var 0), (.var 2)]) (.app 121 [(.lit 0), (.app 5000 [(.lit 0)]), (.app 5001 [(.lit 0)]), (.lit 1), (.var 0)])) (.cmp .eql (.app 111 [(.var 0), (.var 2)]) (.app 122 [(.lit 0), (.app 5000 [(.lit 0)]), (.app 5001 [(.lit 0)]), (.lit 1), (.var 0)])))) (.exit 1 [(.var 3), (.var 4)]) (.again [(.op .add (.var 2) (.lit 1)), (.app 110 [(.var 0), (.var 2)]), (.app 111 [(.var 0), (.var 2)]), (.lit 1)]))) (.again [(.op .add (.var 2) (.lit 1)), (.app 110 [(.var 0), (.var 2)]), (.app 111 [(.var 0), (.var 2)]), (.lit 1)]))))) (.exit 0 [(.var 3), (.var 4)]))
/-- whoever has few liars is between the ends -/
theorem in_fused {f : Fn} {n : Nat} {m : Int} (hV : ∀ j, j < n → vAt f j) (hm : m < n) {x : Int} (h : gd f n m x) : pF f n m n = 1 ∧ pLo f n m n ≤ x ∧ x ≤ pHi f n m n := by
  have h1 := lst_sup f x n
  obtain ⟨j, hj, hh⟩ := sup_pos (f := f) (x := x) (n := n) (by unfold gd at h; omega)
  obtain ⟨k, hk, hs, hmin⟩ := least (v := fun j => f 5001 [(j : Int)]) (S := hasAt f x) ⟨j, hj, hh⟩
  obtain ⟨k', hk', hs', hmin'⟩ := least (v := fun j => 0 - f 5000 [(j : Int)]) (S := hasAt f x) ⟨j, hj, hh⟩
  have g1 : gd f n m (f 5001 [(k : Int)]) := by
    have h2 := lst_sup f (f 5001 [(k : Int)]) n
    have h3 := sup_mono (f := f) (x := x) (y := f 5001 [(k : Int)]) (n := n) fun j hj hh => ⟨by have := hs.2; have := hh.1; omega, hmin j hj hh⟩
    unfold gd at h ⊢
    omega
  have g2 : gd f n m (f 5000 [(k' : Int)]) := by
    have h2 := lst_sup f (f 5000 [(k' : Int)]) n
    have h3 := sup_mono (f := f) (x := x) (y := f 5000 [(k' : Int)]) (n := n) fun j hj hh => ⟨by have := hmin' j hj hh; omega, by have := hs'.1; have := hh.2; omega⟩
    unfold gd at h ⊢
    omega
  have lo : ∀ i : Nat, ∀ j : Nat, j < i → gd f n m (f 5000 [(j : Int)]) → pLo f n m i ≤ f 5000 [(j : Int)] := by
    intro i
    induction i with
    | zero => intro j hj; omega
    | succ i ih =>
      intro j hj hg
      unfold pLo
      by_cases hji : j = i
      · subst hji; rw [if_pos hg]; omega
      · have := ih j (by omega) hg
        split <;> omega
  have hi : ∀ i : Nat, ∀ j : Nat, j < i → gd f n m (f 5001 [(j : Int)]) → f 5001 [(j : Int)] ≤ pHi f n m i := by
    intro i
    induction i with
    | zero => intro j hj; omega
    | succ i ih =>
      intro j hj hg
      unfold pHi
      by_cases hji : j = i
      · subst hji; rw [if_pos hg]; omega
      · have := ih j (by omega) hg
        split <;> omega
  refine ⟨pF_one ⟨k, hk, .inr g1⟩, ?_, ?_⟩
  · have := lo n k' hk' g2; have := hs'.1; omega
  · have := hi n k hk g1; have := hs.2; omega
theorem lo_at {f : Fn} {n : Nat} {m : Int} : ∀ i : Nat, pLo f n m i = 1099511627776 ∨ ∃ j : Nat, j < i ∧ gd f n m (f 5000 [(j : Int)]) ∧ pLo f n m i = f 5000 [(j : Int)]
  | 0 => .inl rfl
  | i + 1 => by
      have ih := lo_at (f := f) (n := n) (m := m) i
      unfold pLo
      by_cases g : gd f n m (f 5000 [(i : Int)])
      · rw [if_pos g]
        by_cases hc : f 5000 [(i : Int)] ≤ pLo f n m i
        · exact .inr ⟨i, by omega, g, by omega⟩
        · rw [show min (pLo f n m i) (f 5000 [(i : Int)]) = pLo f n m i by omega]
          rcases ih with h | ⟨j, a, b, c⟩
          · exact .inl h
          · exact .inr ⟨j, by omega, b, c⟩
      · rw [if_neg g]
        rcases ih with h | ⟨j, a, b, c⟩
        · exact .inl h
        · exact .inr ⟨j, by omega, b, c⟩
theorem hi_at {f : Fn} {n : Nat} {m : Int} : ∀ i : Nat, pHi f n m i = -1099511627776 ∨ ∃ j : Nat, j < i ∧ gd f n m (f 5001 [(j : Int)]) ∧ pHi f n m i = f 5001 [(j : Int)]
  | 0 => .inl rfl
  | i + 1 => by
      have ih := hi_at (f := f) (n := n) (m := m) i
      unfold pHi
      by_cases g : gd f n m (f 5001 [(i : Int)])
      · rw [if_pos g]
        by_cases hc : pHi f n m i ≤ f 5001 [(i : Int)]
        · exact .inr ⟨i, by omega, g, by omega⟩
        · rw [show max (pHi f n m i) (f 5001 [(i : Int)]) = pHi f n m i by omega]
          rcases ih with h | ⟨j, a, b, c⟩
          · exact .inl h
          · exact .inr ⟨j, by omega, b, c⟩
      · rw [if_neg g]
        rcases ih with h | ⟨j, a, b, c⟩
        · exact .inl h
        · exact .inr ⟨j, by omega, b, c⟩
/-- the ends are supported -/
theorem ends {f : Fn} {n : Nat} {m : Int} (hV : ∀ j, j < n → vAt f j) (hm : m < n) (h : pF f n m n = 1) : (∃ j : Nat, j < n ∧ gd f n m (f 5000 [(j : Int)]) ∧ pLo f n m n = f 5000 [(j : Int)]) ∧ ∃ j : Nat, j < n ∧ gd f n m (f 5001 [(j : Int)]) ∧ pHi f n m n = f 5001 [(j : Int)] := by
  rcases lo_same (m := m) hV (Nat.le_refl n) with ⟨a, b, c⟩ | ⟨a, b, j, hj, hg⟩
  · rcases found hV hm with ⟨_, y, _⟩ | ⟨y, _⟩ <;> omega
  · rcases hi_same (m := m) hV (Nat.le_refl n) with ⟨a', b', c'⟩ | ⟨a', b', j', hj', hg'⟩
    · rcases found hV hm with ⟨_, _, y, _⟩ | ⟨y, _⟩ <;> omega
    · constructor
      · rcases lo_at (f := f) (n := n) (m := m) n with z | z
        · have := (in_fused hV hm hg).2.1
          have := hV j hj
          exact ⟨j, hj, hg, by unfold vAt at this; omega⟩
        · exact z
      · rcases hi_at (f := f) (n := n) (m := m) n with z | z
        · have := (in_fused hV hm hg').2.2
          have := hV j' hj'
          exact ⟨j', hj', hg', by unfold vAt at this; omega⟩
        · exact z
theorem more {f : Fn} {n : Nat} {m : Int} (hV : ∀ j, j < n → vAt f j) (hm : m + 1 < n) (h : pF f n m n = 1) : pF f n (m + 1) n = 1 ∧ pLo f n (m + 1) n ≤ pLo f n m n ∧ pLo f n m n ≤ pHi f n m n ∧ pHi f n m n ≤ pHi f n (m + 1) n := by
  obtain ⟨⟨j, hj, hg, e1⟩, ⟨k, hk, hg', e2⟩⟩ := ends hV (by omega) h
  have a := in_fused hV (show m < n by omega) hg
  have b := in_fused hV hm (show gd f n (m + 1) (f 5000 [(j : Int)]) by unfold gd at hg ⊢; omega)
  have c := in_fused hV hm (show gd f n (m + 1) (f 5001 [(k : Int)]) by unfold gd at hg' ⊢; omega)
  omega
/-! the meeting of all -/
def mm (f : Fn) : Nat → Int × Int × Int
  | 0 => (f 5000 [0], f 5001 [0], 1)
  | i + 1 => if max (mm f i).1 (f 5000 [(i : Int)]) ≤ min (mm f i).2.1 (f 5001 [(i : Int)]) ∧ (mm f i).2.2 = 1 then (max (mm f i).1 (f 5000 [(i : Int)]), min (mm f i).2.1 (f 5001 [(i : Int)]), 1) else ((mm f i).1, (mm f i).2.1, 0)
theorem mm_bit (f : Fn) : ∀ i, (mm f i).2.2 = 0 ∨ (mm f i).2.2 = 1
  | 0 => .inr rfl
  | i + 1 => by unfold mm; split; exact .inr rfl; exact .inl rfl
theorem mm_ok {f : Fn} : ∀ i, (∀ j, j < i + 1 → vAt f j) → -1099511627776 ≤ (mm f i).1 ∧ (mm f i).1 ≤ (mm f i).2.1 ∧ (mm f i).2.1 ≤ 1099511627776
  | 0, h => by have := h 0 (by omega); unfold vAt at this; unfold mm; simp only; exact ⟨this.1, this.2.2.2.2, this.2.2.2.1⟩
  | i + 1, h => by
      have ih := mm_ok i fun j hj => h j (by omega)
      have := h i (by omega)
      unfold vAt at this
      unfold mm
      split
      · rename_i hc
        refine ⟨?_, hc.1, ?_⟩ <;> simp only <;> omega
      · exact ih
theorem mm_spec {f : Fn} : ∀ i : Nat, ((mm f (i + 1)).2.2 = 1 ∧ (∀ j : Nat, j < i + 1 → f 5000 [(j : Int)] ≤ (mm f (i + 1)).1 ∧ (mm f (i + 1)).2.1 ≤ f 5001 [(j : Int)]) ∧ (∃ j : Nat, j < i + 1 ∧ (mm f (i + 1)).1 = f 5000 [(j : Int)]) ∧ (∃ j : Nat, j < i + 1 ∧ (mm f (i + 1)).2.1 = f 5001 [(j : Int)]) ∧ (mm f (i + 1)).1 ≤ (mm f (i + 1)).2.1) ∨
    ((mm f (i + 1)).2.2 = 0 ∧ ∃ j k : Nat, j < i + 1 ∧ k < i + 1 ∧ f 5001 [(k : Int)] < f 5000 [(j : Int)])
  | 0 => by
      have e : mm f 1 = if max (f 5000 [0]) (f 5000 [0]) ≤ min (f 5001 [0]) (f 5001 [0]) ∧ (1 : Int) = 1 then (max (f 5000 [0]) (f 5000 [0]), min (f 5001 [0]) (f 5001 [0]), 1) else (f 5000 [0], f 5001 [0], 0) := rfl
      by_cases hc : max (f 5000 [0]) (f 5000 [0]) ≤ min (f 5001 [0]) (f 5001 [0])
      · rw [if_pos ⟨hc, rfl⟩] at e
        refine .inl ?_
        rw [e]
        refine ⟨rfl, fun j hj => ?_, ⟨0, by omega, ?_⟩, ⟨0, by omega, ?_⟩, hc⟩
        · obtain rfl : j = 0 := by omega
          show f 5000 [0] ≤ max (f 5000 [0]) (f 5000 [0]) ∧ min (f 5001 [0]) (f 5001 [0]) ≤ f 5001 [0]
          omega
        · show max (f 5000 [0]) (f 5000 [0]) = f 5000 [0]
          omega
        · show min (f 5001 [0]) (f 5001 [0]) = f 5001 [0]
          omega
      · rw [if_neg (fun z => hc z.1)] at e
        rw [e]
        refine .inr ⟨rfl, 0, 0, by omega, by omega, ?_⟩
        show f 5001 [0] < f 5000 [0]
        omega
  | i + 1 => by
      have e : mm f (i + 1 + 1) = if max (mm f (i + 1)).1 (f 5000 [((i + 1 : Nat) : Int)]) ≤ min (mm f (i + 1)).2.1 (f 5001 [((i + 1 : Nat) : Int)]) ∧ (mm f (i + 1)).2.2 = 1 then (max (mm f (i + 1)).1 (f 5000 [((i + 1 : Nat) : Int)]), min (mm f (i + 1)).2.1 (f 5001 [((i + 1 : Nat) : Int)]), 1) else ((mm f (i + 1)).1, (mm f (i + 1)).2.1, 0) := rfl
      rcases mm_spec (f := f) i with ⟨a, b, ⟨j, hj, ej⟩, ⟨k, hk, ek⟩, d⟩ | ⟨a, j, k, hj, hk, hl⟩
      · by_cases hc : max (mm f (i + 1)).1 (f 5000 [((i + 1 : Nat) : Int)]) ≤ min (mm f (i + 1)).2.1 (f 5001 [((i + 1 : Nat) : Int)])
        · rw [if_pos ⟨hc, a⟩] at e
          rw [e]
          refine .inl ⟨rfl, fun q hq => ?_, ?_, ?_, hc⟩
          · by_cases hqi : q = i + 1
            · subst hqi; simp only; omega
            · have := b q (by omega); simp only; omega
          · by_cases hm : f 5000 [((i + 1 : Nat) : Int)] ≤ (mm f (i + 1)).1
            · exact ⟨j, by omega, by simp only; omega⟩
            · exact ⟨i + 1, by omega, by simp only; omega⟩
          · by_cases hm : (mm f (i + 1)).2.1 ≤ f 5001 [((i + 1 : Nat) : Int)]
            · exact ⟨k, by omega, by simp only; omega⟩
            · exact ⟨i + 1, by omega, by simp only; omega⟩
        · rw [if_neg (fun z => hc z.1)] at e
          rw [e]
          refine .inr ⟨rfl, ?_⟩
          by_cases h1 : f 5001 [(k : Int)] < f 5000 [((i + 1 : Nat) : Int)]
          · exact ⟨i + 1, k, by omega, by omega, h1⟩
          · by_cases h2 : f 5001 [((i + 1 : Nat) : Int)] < f 5000 [(j : Int)]
            · exact ⟨j, i + 1, by omega, by omega, h2⟩
            · exact ⟨i + 1, i + 1, by omega, by omega, by omega⟩
      · rw [if_neg (fun z => by omega)] at e
        rw [e]
        exact .inr ⟨rfl, j, k, by omega, by omega, hl⟩
theorem lst_nil {f : Fn} {x : Int} : ∀ {n : Nat}, (lst f x n).length = 0 ↔ ∀ j, j < n → hasAt f x j
  | 0 => ⟨fun _ j hj => absurd hj (Nat.not_lt_zero _), fun _ => rfl⟩
  | n + 1 => by
      unfold lst
      by_cases h : hasAt f x n
      · rw [if_pos h, lst_nil (n := n)]
        exact ⟨fun z j hj => if hjn : j = n then hjn ▸ h else z j (by omega), fun z j hj => z j (by omega)⟩
      · rw [if_neg h]
        exact ⟨fun z => by simp at z, fun z => absurd (z n (by omega)) h⟩
/-- with no liar it is the meeting -/
theorem none_lies {f : Fn} {n : Nat} (hV : ∀ j, j < n → vAt f j) (hn : 0 < n) : ((mm f n).2.2 = 1 ∧ pF f n 0 n = 1 ∧ pLo f n 0 n = (mm f n).1 ∧ pHi f n 0 n = (mm f n).2.1) ∨ ((mm f n).2.2 = 0 ∧ pF f n 0 n = 0) := by
  obtain ⟨i, rfl⟩ : ∃ i, n = i + 1 := ⟨n - 1, by omega⟩
  have g0 : ∀ x, gd f (i + 1) 0 x ↔ ∀ j, j < i + 1 → hasAt f x j := fun x => by
    rw [← lst_nil]; unfold gd; omega
  rcases mm_spec (f := f) i with ⟨a, b, ⟨j, hj, ej⟩, ⟨k, hk, ek⟩, d⟩ | ⟨a, j, k, hj, hk, hl⟩
  · have g1 : gd f (i + 1) 0 (mm f (i + 1)).1 := (g0 _).2 fun q hq => by have := b q hq; unfold hasAt; omega
    have g2 : gd f (i + 1) 0 (mm f (i + 1)).2.1 := (g0 _).2 fun q hq => by have := b q hq; unfold hasAt; omega
    have i1 := in_fused hV (by omega) g1
    have i2 := in_fused hV (by omega) g2
    obtain ⟨⟨j', hj', hg', e1⟩, ⟨k', hk', hg'', e2⟩⟩ := ends hV (by omega) i1.1
    have u1 := (g0 _).1 hg' j hj
    have u2 := (g0 _).1 hg'' k hk
    unfold hasAt at u1 u2
    exact .inl ⟨a, i1.1, by omega, by omega⟩
  · refine .inr ⟨a, ?_⟩
    rcases pF_is f (i + 1) 0 (i + 1) with z | z
    · exact z
    · obtain ⟨⟨j', hj', hg', e1⟩, _⟩ := ends hV (by omega) z
      have u1 := (g0 _).1 hg' j hj
      have u2 := (g0 _).1 hg' k hk
      unfold hasAt at u1 u2
      omega
/-- the first that is no span -/
def fb (f : Fn) : Nat → Nat
  | 0 => 0
  | n + 1 => if fb f n < n then fb f n else if vAt f n then n + 1 else n
theorem fb_all {f : Fn} : ∀ {n : Nat}, (∀ j, j < n → vAt f j) → fb f n = n
  | 0, _ => rfl
  | n + 1, h => by
      unfold fb
      rw [fb_all (n := n) fun j hj => h j (by omega), if_neg (Nat.lt_irrefl _), if_pos (h n (by omega))]
theorem fb_at {f : Fn} : ∀ {n i : Nat}, i < n → (∀ j, j < i → vAt f j) → ¬ vAt f i → fb f n = i
  | 0, i, h, _, _ => absurd h (Nat.not_lt_zero _)
  | n + 1, i, h, h1, h2 => by
      unfold fb
      by_cases hin : i = n
      · subst hin
        rw [fb_all h1, if_neg (Nat.lt_irrefl _), if_neg h2]
      · rw [fb_at (n := n) (by omega) h1 h2, if_pos (by omega)]
/-! the functions of this law, over those of the other -/
open Classical in
noncomputable def cfn (g : Fn) : Fn := fun k a => match k, a with
  | 100, [n, x] => enc (lst g x n.toNat)
  | 101, [n, x] => ((lst g x n.toNat).length : Int)
  | 102, [n, x] => 0
  | 110, [n, m] => if pF g n.toNat m n.toNat = 0 then 0 else pLo g n.toNat m n.toNat
  | 111, [n, m] => if pF g n.toNat m n.toNat = 0 then 0 else pHi g n.toNat m n.toNat
  | 112, [n, m] => if pF g n.toNat m n.toNat = 0 then 5 else 0
  | 120, [i, a, b, c, n] => if allV g n then 0 else 1
  | 121, [i, a, b, c, n] => (mm g (fb g n.toNat)).1
  | 122, [i, a, b, c, n] => (mm g (fb g n.toNat)).2.1
  | 123, [i, a, b, c, n] => (mm g (fb g n.toNat)).2.2
  | 130, [i, a, b, c, n, x] => 0
  | 131, [i, a, b, c, n, x] => if pF g n.toNat (n - 1) n.toNat = 0 then 0 else pLo g n.toNat (n - 1) n.toNat
  | 132, [i, a, b, c, n, x] => if pF g n.toNat (n - 1) n.toNat = 0 then 0 else pHi g n.toNat (n - 1) n.toNat
  | k, a => bfn g k a
open Classical in
structure Good2 (f : Fn) : Prop where
  good : Good f
  h100 : ∀ n x, f 100 [n, x] = enc (lst f x n.toNat)
  h101 : ∀ n x, f 101 [n, x] = ((lst f x n.toNat).length : Int)
  h102 : ∀ n x, f 102 [n, x] = 0
  h110 : ∀ n m, f 110 [n, m] = if pF f n.toNat m n.toNat = 0 then 0 else pLo f n.toNat m n.toNat
  h111 : ∀ n m, f 111 [n, m] = if pF f n.toNat m n.toNat = 0 then 0 else pHi f n.toNat m n.toNat
  h112 : ∀ n m, f 112 [n, m] = if pF f n.toNat m n.toNat = 0 then 5 else 0
  h120 : ∀ i a b c n, f 120 [i, a, b, c, n] = if allV f n then 0 else 1
  h121 : ∀ i a b c n, f 121 [i, a, b, c, n] = (mm f (fb f n.toNat)).1
  h122 : ∀ i a b c n, f 122 [i, a, b, c, n] = (mm f (fb f n.toNat)).2.1
  h123 : ∀ i a b c n, f 123 [i, a, b, c, n] = (mm f (fb f n.toNat)).2.2
  h130 : ∀ i a b c n x, f 130 [i, a, b, c, n, x] = 0
  h131 : ∀ i a b c n x, f 131 [i, a, b, c, n, x] = if pF f n.toNat (n - 1) n.toNat = 0 then 0 else pLo f n.toNat (n - 1) n.toNat
  h132 : ∀ i a b c n x, f 132 [i, a, b, c, n, x] = if pF f n.toNat (n - 1) n.toNat = 0 then 0 else pHi f n.toNat (n - 1) n.toNat
theorem cfn_high (g : Fn) (k : Nat) (a : List Int) (h : 1000 ≤ k) : cfn g k a = g k a := by
  unfold cfn
  split <;> first | omega | exact bfn_high g _ _ h
/-- what depends on the rows alone -/
theorem rows_same {f g : Fn} (e0 : ∀ a, f 5000 a = g 5000 a) (e1 : ∀ a, f 5001 a = g 5001 a) : (∀ n, allV f n = allV g n) ∧ (∀ x n, lst f x n = lst g x n) ∧ (∀ x n, sup f x n = sup g x n) ∧ (∀ n m i, pLo f n m i = pLo g n m i) ∧ (∀ n m i, pHi f n m i = pHi g n m i) ∧ (∀ n m i, pF f n m i = pF g n m i) ∧
    (∀ n m i, rLo f n m i = rLo g n m i) ∧ (∀ n m i, rHi f n m i = rHi g n m i) ∧ (∀ i, mm f i = mm g i) ∧ ∀ n, fb f n = fb g n := by
  have el : ∀ x n, lst f x n = lst g x n := fun x n => by
    induction n with
    | zero => rfl
    | succ n ih => unfold lst hasAt; rw [ih, e0, e1]
  refine ⟨fun n => by unfold allV vAt; simp only [e0, e1], el, fun x n => ?_, fun n m i => ?_, fun n m i => ?_, fun n m i => ?_, fun n m i => ?_, fun n m i => ?_, fun i => ?_, fun n => ?_⟩
  · induction n with
    | zero => rfl
    | succ n ih => unfold sup hasAt; rw [ih, e0, e1]
  · induction i with
    | zero => rfl
    | succ i ih => unfold pLo gd; rw [ih, e0, el]
  · induction i with
    | zero => rfl
    | succ i ih => unfold pHi gd; rw [ih, e1, el]
  · induction i with
    | zero => rfl
    | succ i ih => unfold pF gd; rw [ih, e0, e1, el, el]
  · induction i with
    | zero => rfl
    | succ i ih => unfold rLo gd; rw [ih, e0, el]
  · induction i with
    | zero => rfl
    | succ i ih => unfold rHi gd; rw [ih, e1, el]
  · induction i with
    | zero => unfold mm; rw [e0, e1]
    | succ i ih => unfold mm; rw [ih, e0, e1]
  · induction n with
    | zero => rfl
    | succ n ih => unfold fb; rw [ih]; unfold vAt; simp only [e0, e1]
theorem good2_of (g : Fn) (hg : RowFn g) : Good2 (cfn g) := by
  have e0 : ∀ a, cfn g 5000 a = g 5000 a := fun a => cfn_high g _ a (by decide)
  have e1 : ∀ a, cfn g 5001 a = g 5001 a := fun a => cfn_high g _ a (by decide)
  obtain ⟨ev, el, es, p1, p2, p3, p4, p5, p6, p7⟩ := rows_same e0 e1
  have G : Good (cfn g) := ⟨fun k a h1 h2 => by rw [cfn_high g k a h1]; exact hg k a h1 h2, fun i n => by rw [ev]; rfl, fun _ _ _ _ _ => rfl, fun i l c n x => by rw [el]; rfl, fun i l c n x => by rw [el]; rfl, fun _ _ _ _ => rfl, fun i c n x => by rw [es]; rfl, fun _ _ => rfl,
    fun n x => by rw [el]; rfl, fun n x => by rw [el]; rfl, fun n x => by rw [es]; rfl, fun _ _ _ _ _ _ => rfl, fun i a b c n m => by rw [p1]; rfl, fun i a b c n m => by rw [p2]; rfl, fun i a b c n m => by rw [p3]; rfl,
    fun _ _ _ _ _ => rfl, fun i a b n m => by rw [p4]; rfl, fun i a b n m => by rw [p4]; rfl, fun _ _ _ _ _ => rfl, fun i a b n m => by rw [p5]; rfl, fun i a b n m => by rw [p5]; rfl⟩
  exact ⟨G, fun n x => by rw [el]; rfl, fun n x => by rw [el]; rfl, fun _ _ => rfl, fun n m => by rw [p3, p1]; rfl, fun n m => by rw [p3, p2]; rfl, fun n m => by rw [p3]; rfl, fun i a b c n => by rw [ev]; rfl,
    fun i a b c n => by rw [p6, p7]; rfl, fun i a b c n => by rw [p6, p7]; rfl, fun i a b c n => by rw [p6, p7]; rfl, fun _ _ _ _ _ _ => rfl, fun i a b c n x => by rw [p3, p1]; rfl, fun i a b c n x => by rw [p3, p2]; rfl⟩
end Go.Proofs.Ytkdmnjpkimnmbaa
