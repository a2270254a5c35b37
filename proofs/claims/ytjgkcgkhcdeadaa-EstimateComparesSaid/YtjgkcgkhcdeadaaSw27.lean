/- Functions that give the rows' elements, beside others. -/
import Derived.Test.YtjgkcgkhcdeadaaSw26
namespace Go.SX
open Go Go.RowKit
set_option linter.unusedVariables false
set_option linter.unusedSimpArgs false

def rowVal : List PSh → List PV → Nat → Nat → List Int → Option Int
  | .row ks :: sh, .row d v :: l, b, k, a => if rowF b ≤ k ∧ k < rowF b + 100 then some (d.xs (a.getD 0 0).toNat (k - rowF b)) else rowVal sh l (b + 1) k a
  | .flat _ _ :: sh, _ :: l, b, k, a => rowVal sh l b k a
  | _, _, _, _, _ => none
def withRows (f0 : Nat → List Int → Int) (sh : List PSh) (l : List PV) : Nat → List Int → Int := fun k a => match rowVal sh l 0 k a with
  | some x => x
  | none => f0 k a

theorem rowVal_low : ∀ {sh : List PSh} {l : List PV} {b k : Nat} {a : List Int}, k < rowF b → rowVal sh l b k a = none
  | [], _, _, _, _, _ => rfl
  | .row _ :: _, [], _, _, _, _ => rfl
  | .row _ :: _, .flat _ :: _, _, _, _, _ => rfl
  | .flat _ _ :: _, [], _, _, _, _ => rfl
  | .flat _ _ :: sh, _ :: l, b, k, a, h => rowVal_low (sh := sh) (l := l) h
  | .row ks :: sh, .row d v :: l, b, k, a, h => by
      simp only [rowVal]
      rw [if_neg (by omega)]
      exact rowVal_low (by unfold rowF at *; omega)
theorem withRows_low {f0 : Nat → List Int → Int} {sh : List PSh} {l : List PV} {k : Nat} {a : List Int} (h : k < 5000) : withRows f0 sh l k a = f0 k a := by
  unfold withRows
  rw [rowVal_low (by unfold rowF; omega)]

def smallRows : List PSh → Bool
  | [] => true
  | .flat _ _ :: l => smallRows l
  | .row ks :: l => Nat.ble ks.length 100 && smallRows l
theorem rowVal_rows {f : Nat → List Int → Int} : ∀ {sh : List PSh} {l : List PV} {b : Nat}, smallRows sh = true → (∀ k a x, rowF b ≤ k → rowVal sh l b k a = some x → f k a = x) → FnRows f sh l b
  | [], _, _, _, _ => trivial
  | .row _ :: _, [], _, _, _ => trivial
  | .row _ :: _, .flat _ :: _, _, _, _ => trivial
  | .flat _ _ :: _, [], _, _, _ => trivial
  | .flat _ _ :: sh, _ :: l, b, hs, h => rowVal_rows (sh := sh) (l := l) (by simpa only [smallRows] using hs) h
  | .row ks :: sh, .row d v :: l, b, hs, h => by
      simp only [smallRows, Bool.and_eq_true] at hs
      have hk := Nat.le_of_ble_eq_true hs.1
      refine ⟨fun i j hi hj => ?_, rowVal_rows hs.2 fun k a x hk2 hx => ?_⟩
      · refine h (rowF b + j) _ _ (by omega) ?_
        simp only [rowVal]
        rw [if_pos (by omega)]
        simp
      · refine h k a x (by unfold rowF at *; omega) ?_
        simp only [rowVal]
        rw [if_neg (by unfold rowF at *; omega)]
        exact hx
theorem withRows_rows {f0 : Nat → List Int → Int} {sh : List PSh} {l : List PV} (hs : smallRows sh = true) : FnRows (withRows f0 sh l) sh l 0 :=
  rowVal_rows hs fun k a x _ hx => by unfold withRows; rw [hx]
/-- yes on every way, by looking alone -/
def VT.allYes : VT → Bool
  | .leaf (.bool (.lit true)) => true
  | .ite _ t e => t.allYes && e.allYes
  | _ => false
theorem VT.allYes_holds {env : Env} : ∀ {t : VT}, t.allYes = true → t.holds env fun v => yes env v
  | .leaf (.bool (.lit true)), _ => rfl
  | .ite c t e, h => by
      simp only [VT.allYes, Bool.and_eq_true] at h
      exact ⟨fun _ => VT.allYes_holds h.1, fun _ => VT.allYes_holds h.2⟩
end Go.SX
