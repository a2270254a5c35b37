/- The law ProtectVoting answers true for every input: if at least two usable channels show numbers that differ from a true number by at most half the spread, the votes are there, and differ by no more; no condition beyond the row's own. The call is reckoned in a store of named blocks (the texts Sw1 to Sw28), in every order that the model may draw. -/
import Derived.Test.YtbphajopcmiadaaLV1
import Derived.Test.YtbphajopcmiadaaLV2
import Derived.Test.YtbphajopcmiadaaLV3
import Derived.Test.YtbphajopcmiadaaLV4
import Derived.Test.YtbphajopcmiadaaLV5
namespace Go.Proofs.Ytbphajopcmiadaa.protectVoting
open Go.SX
open Go.ChangeShapes Go.WideShapes Go.ChangeAt Go.RowKit
set_option linter.unusedVariables false
set_option linter.unusedSimpArgs false
open Go.SX in
theorem cover (pv : List Go.SX.PV) (w : World) (hw : Go.SX.pvAll w sh pv) : (∀ be v, (be, v) ∈ facts0 → be.den (Go.SX.envOf (Go.SX.pvNums pv) (Go.SX.withRows fn0 sh pv)) = v) ∨ (∀ be v, (be, v) ∈ facts1 → be.den (Go.SX.envOf (Go.SX.pvNums pv) (Go.SX.withRows fn0 sh pv)) = v) ∨ (∀ be v, (be, v) ∈ facts2 → be.den (Go.SX.envOf (Go.SX.pvNums pv) (Go.SX.withRows fn0 sh pv)) = v) ∨ (∀ be v, (be, v) ∈ facts3 → be.den (Go.SX.envOf (Go.SX.pvNums pv) (Go.SX.withRows fn0 sh pv)) = v) ∨ (∀ be v, (be, v) ∈ facts4 → be.den (Go.SX.envOf (Go.SX.pvNums pv) (Go.SX.withRows fn0 sh pv)) = v) ∨ (∀ be v, (be, v) ∈ facts5 → be.den (Go.SX.envOf (Go.SX.pvNums pv) (Go.SX.withRows fn0 sh pv)) = v) ∨ (∀ be v, (be, v) ∈ facts6 → be.den (Go.SX.envOf (Go.SX.pvNums pv) (Go.SX.withRows fn0 sh pv)) = v) ∨ (∀ be v, (be, v) ∈ facts7 → be.den (Go.SX.envOf (Go.SX.pvNums pv) (Go.SX.withRows fn0 sh pv)) = v) ∨ (∀ be v, (be, v) ∈ facts8 → be.den (Go.SX.envOf (Go.SX.pvNums pv) (Go.SX.withRows fn0 sh pv)) = v) ∨ (∀ be v, (be, v) ∈ facts9 → be.den (Go.SX.envOf (Go.SX.pvNums pv) (Go.SX.withRows fn0 sh pv)) = v) ∨ (∀ be v, (be, v) ∈ facts10 → be.den (Go.SX.envOf (Go.SX.pvNums pv) (Go.SX.withRows fn0 sh pv)) = v) ∨ (∀ be v, (be, v) ∈ facts11 → be.den (Go.SX.envOf (Go.SX.pvNums pv) (Go.SX.withRows fn0 sh pv)) = v) ∨ (∀ be v, (be, v) ∈ facts12 → be.den (Go.SX.envOf (Go.SX.pvNums pv) (Go.SX.withRows fn0 sh pv)) = v) ∨ (∀ be v, (be, v) ∈ facts13 → be.den (Go.SX.envOf (Go.SX.pvNums pv) (Go.SX.withRows fn0 sh pv)) = v) ∨ (∀ be v, (be, v) ∈ facts14 → be.den (Go.SX.envOf (Go.SX.pvNums pv) (Go.SX.withRows fn0 sh pv)) = v) ∨ (∀ be v, (be, v) ∈ facts15 → be.den (Go.SX.envOf (Go.SX.pvNums pv) (Go.SX.withRows fn0 sh pv)) = v) ∨ (∀ be v, (be, v) ∈ facts16 → be.den (Go.SX.envOf (Go.SX.pvNums pv) (Go.SX.withRows fn0 sh pv)) = v) ∨ (∀ be v, (be, v) ∈ facts17 → be.den (Go.SX.envOf (Go.SX.pvNums pv) (Go.SX.withRows fn0 sh pv)) = v) ∨ (∀ be v, (be, v) ∈ facts18 → be.den (Go.SX.envOf (Go.SX.pvNums pv) (Go.SX.withRows fn0 sh pv)) = v) ∨ (∀ be v, (be, v) ∈ facts19 → be.den (Go.SX.envOf (Go.SX.pvNums pv) (Go.SX.withRows fn0 sh pv)) = v) ∨ (∀ be v, (be, v) ∈ facts20 → be.den (Go.SX.envOf (Go.SX.pvNums pv) (Go.SX.withRows fn0 sh pv)) = v) ∨ (∀ be v, (be, v) ∈ facts21 → be.den (Go.SX.envOf (Go.SX.pvNums pv) (Go.SX.withRows fn0 sh pv)) = v) ∨ (∀ be v, (be, v) ∈ facts22 → be.den (Go.SX.envOf (Go.SX.pvNums pv) (Go.SX.withRows fn0 sh pv)) = v) ∨ (∀ be v, (be, v) ∈ facts23 → be.den (Go.SX.envOf (Go.SX.pvNums pv) (Go.SX.withRows fn0 sh pv)) = v) ∨ (∀ be v, (be, v) ∈ facts24 → be.den (Go.SX.envOf (Go.SX.pvNums pv) (Go.SX.withRows fn0 sh pv)) = v) ∨ (∀ be v, (be, v) ∈ facts25 → be.den (Go.SX.envOf (Go.SX.pvNums pv) (Go.SX.withRows fn0 sh pv)) = v) ∨ (∀ be v, (be, v) ∈ facts26 → be.den (Go.SX.envOf (Go.SX.pvNums pv) (Go.SX.withRows fn0 sh pv)) = v) ∨ (∀ be v, (be, v) ∈ facts27 → be.den (Go.SX.envOf (Go.SX.pvNums pv) (Go.SX.withRows fn0 sh pv)) = v) ∨ (∀ be v, (be, v) ∈ facts28 → be.den (Go.SX.envOf (Go.SX.pvNums pv) (Go.SX.withRows fn0 sh pv)) = v) ∨ (∀ be v, (be, v) ∈ facts29 → be.den (Go.SX.envOf (Go.SX.pvNums pv) (Go.SX.withRows fn0 sh pv)) = v) := by
  obtain ⟨p0, _, rfl, g0, p1, _, rfl, g1, p2, _, rfl, g2, p3, _, rfl, g3, p4, _, rfl, g4, p5, _, rfl, g5, p6, _, rfl, g6, p7, _, rfl, g7, e⟩ := hw
  rw [show _ = ([] : List PV) from e]
  obtain ⟨x0, rfl, r0⟩ := flatI g0
  obtain ⟨x1, rfl, r1⟩ := flatI g1
  obtain ⟨x2, rfl, r2⟩ := flatI g2
  obtain ⟨x3, rfl, r3⟩ := flatI g3
  obtain ⟨x4, rfl, r4⟩ := flatI g4
  obtain ⟨x5, rfl, r5⟩ := flatI g5
  obtain ⟨x6, rfl⟩ := flatB g6
  obtain ⟨x7, rfl, r7⟩ := flatI g7
  generalize withRows fn0 sh _ = fn
  generalize hen : (envOf (pvNums [.flat [x0], .flat [x1], .flat [x2], .flat [x3], .flat [x4], .flat [x5], .flat [x6], .flat [x7]]) fn) = env
  have hq : (qE.den env = (0 : Nat) ∨ qE.den env = (1 : Nat) ∨ qE.den env = (2 : Nat) ∨ qE.den env = (3 : Nat) ∨ qE.den env = (4 : Nat)) := by
    subst hen
    show x0.tmod 5 = (0 : Nat) ∨ x0.tmod 5 = (1 : Nat) ∨ x0.tmod 5 = (2 : Nat) ∨ x0.tmod 5 = (3 : Nat) ∨ x0.tmod 5 = (4 : Nat)
    have h0 : (0 : Int) ≤ x0 := r0.1
    rw [Int.tmod_eq_emod_of_nonneg h0]; omega
  have hp : (pE.den env = (0 : Nat) ∨ pE.den env = (1 : Nat) ∨ pE.den env = (2 : Nat)) := by
    subst hen
    show x7.tmod 3 = (0 : Nat) ∨ x7.tmod 3 = (1 : Nat) ∨ x7.tmod 3 = (2 : Nat)
    have h0 : (0 : Int) ≤ x7 := r7.1
    rw [Int.tmod_eq_emod_of_nonneg h0]; omega
  have hm : ((BE.tst (.var 6)).den env = false ∨ (BE.tst (.var 6)).den env = true) := by
    cases (BE.tst (.var 6)).den env <;> simp
  rcases hq with hq | hq | hq | hq | hq <;> rcases hp with hp | hp | hp <;> rcases hm with hm | hm
  · exact .inl (factsOf_ok hq hp hm)
  · exact .inr (.inl (factsOf_ok hq hp hm))
  · exact .inr (.inr (.inl (factsOf_ok hq hp hm)))
  · exact .inr (.inr (.inr (.inl (factsOf_ok hq hp hm))))
  · exact .inr (.inr (.inr (.inr (.inl (factsOf_ok hq hp hm)))))
  · exact .inr (.inr (.inr (.inr (.inr (.inl (factsOf_ok hq hp hm))))))
  · exact .inr (.inr (.inr (.inr (.inr (.inr (.inl (factsOf_ok hq hp hm)))))))
  · exact .inr (.inr (.inr (.inr (.inr (.inr (.inr (.inl (factsOf_ok hq hp hm))))))))
  · exact .inr (.inr (.inr (.inr (.inr (.inr (.inr (.inr (.inl (factsOf_ok hq hp hm)))))))))
  · exact .inr (.inr (.inr (.inr (.inr (.inr (.inr (.inr (.inr (.inl (factsOf_ok hq hp hm))))))))))
  · exact .inr (.inr (.inr (.inr (.inr (.inr (.inr (.inr (.inr (.inr (.inl (factsOf_ok hq hp hm)))))))))))
  · exact .inr (.inr (.inr (.inr (.inr (.inr (.inr (.inr (.inr (.inr (.inr (.inl (factsOf_ok hq hp hm))))))))))))
  · exact .inr (.inr (.inr (.inr (.inr (.inr (.inr (.inr (.inr (.inr (.inr (.inr (.inl (factsOf_ok hq hp hm)))))))))))))
  · exact .inr (.inr (.inr (.inr (.inr (.inr (.inr (.inr (.inr (.inr (.inr (.inr (.inr (.inl (factsOf_ok hq hp hm))))))))))))))
  · exact .inr (.inr (.inr (.inr (.inr (.inr (.inr (.inr (.inr (.inr (.inr (.inr (.inr (.inr (.inl (factsOf_ok hq hp hm)))))))))))))))
  · exact .inr (.inr (.inr (.inr (.inr (.inr (.inr (.inr (.inr (.inr (.inr (.inr (.inr (.inr (.inr (.inl (factsOf_ok hq hp hm))))))))))))))))
  · exact .inr (.inr (.inr (.inr (.inr (.inr (.inr (.inr (.inr (.inr (.inr (.inr (.inr (.inr (.inr (.inr (.inl (factsOf_ok hq hp hm)))))))))))))))))
  · exact .inr (.inr (.inr (.inr (.inr (.inr (.inr (.inr (.inr (.inr (.inr (.inr (.inr (.inr (.inr (.inr (.inr (.inl (factsOf_ok hq hp hm))))))))))))))))))
  · exact .inr (.inr (.inr (.inr (.inr (.inr (.inr (.inr (.inr (.inr (.inr (.inr (.inr (.inr (.inr (.inr (.inr (.inr (.inl (factsOf_ok hq hp hm)))))))))))))))))))
  · exact .inr (.inr (.inr (.inr (.inr (.inr (.inr (.inr (.inr (.inr (.inr (.inr (.inr (.inr (.inr (.inr (.inr (.inr (.inr (.inl (factsOf_ok hq hp hm))))))))))))))))))))
  · exact .inr (.inr (.inr (.inr (.inr (.inr (.inr (.inr (.inr (.inr (.inr (.inr (.inr (.inr (.inr (.inr (.inr (.inr (.inr (.inr (.inl (factsOf_ok hq hp hm)))))))))))))))))))))
  · exact .inr (.inr (.inr (.inr (.inr (.inr (.inr (.inr (.inr (.inr (.inr (.inr (.inr (.inr (.inr (.inr (.inr (.inr (.inr (.inr (.inr (.inl (factsOf_ok hq hp hm))))))))))))))))))))))
  · exact .inr (.inr (.inr (.inr (.inr (.inr (.inr (.inr (.inr (.inr (.inr (.inr (.inr (.inr (.inr (.inr (.inr (.inr (.inr (.inr (.inr (.inr (.inl (factsOf_ok hq hp hm)))))))))))))))))))))))
  · exact .inr (.inr (.inr (.inr (.inr (.inr (.inr (.inr (.inr (.inr (.inr (.inr (.inr (.inr (.inr (.inr (.inr (.inr (.inr (.inr (.inr (.inr (.inr (.inl (factsOf_ok hq hp hm))))))))))))))))))))))))
  · exact .inr (.inr (.inr (.inr (.inr (.inr (.inr (.inr (.inr (.inr (.inr (.inr (.inr (.inr (.inr (.inr (.inr (.inr (.inr (.inr (.inr (.inr (.inr (.inr (.inl (factsOf_ok hq hp hm)))))))))))))))))))))))))
  · exact .inr (.inr (.inr (.inr (.inr (.inr (.inr (.inr (.inr (.inr (.inr (.inr (.inr (.inr (.inr (.inr (.inr (.inr (.inr (.inr (.inr (.inr (.inr (.inr (.inr (.inl (factsOf_ok hq hp hm))))))))))))))))))))))))))
  · exact .inr (.inr (.inr (.inr (.inr (.inr (.inr (.inr (.inr (.inr (.inr (.inr (.inr (.inr (.inr (.inr (.inr (.inr (.inr (.inr (.inr (.inr (.inr (.inr (.inr (.inr (.inl (factsOf_ok hq hp hm)))))))))))))))))))))))))))
  · exact .inr (.inr (.inr (.inr (.inr (.inr (.inr (.inr (.inr (.inr (.inr (.inr (.inr (.inr (.inr (.inr (.inr (.inr (.inr (.inr (.inr (.inr (.inr (.inr (.inr (.inr (.inr (.inl (factsOf_ok hq hp hm))))))))))))))))))))))))))))
  · exact .inr (.inr (.inr (.inr (.inr (.inr (.inr (.inr (.inr (.inr (.inr (.inr (.inr (.inr (.inr (.inr (.inr (.inr (.inr (.inr (.inr (.inr (.inr (.inr (.inr (.inr (.inr (.inr (.inl (factsOf_ok hq hp hm)))))))))))))))))))))))))))))
  · exact .inr (.inr (.inr (.inr (.inr (.inr (.inr (.inr (.inr (.inr (.inr (.inr (.inr (.inr (.inr (.inr (.inr (.inr (.inr (.inr (.inr (.inr (.inr (.inr (.inr (.inr (.inr (.inr (.inr (factsOf_ok hq hp hm)))))))))))))))))))))))))))))

theorem walkAll (pv : List Go.SX.PV) (w : World) (hw : Go.SX.pvAll w sh pv) : Calls Try.prog 6 (Go.SX.pvVals sh pv).toArray w fun e w' => e = .returned (.bool true) ∧ Below w.heap.size w w' := by
  rcases cover pv w hw with hf | hf | hf | hf | hf | hf | hf | hf | hf | hf | hf | hf | hf | hf | hf | hf | hf | hf | hf | hf | hf | hf | hf | hf | hf | hf | hf | hf | hf | hf
  · exact Go.SX.calls_rows (fn := Go.SX.withRows fn0 sh pv) mix (XOK _ fun k a h => Go.SX.withRows_low h) hw (Go.SX.withRows_rows (by rfl)) hf tree_vt0 (main0 pv w hw hf)
  · exact Go.SX.calls_rows (fn := Go.SX.withRows fn0 sh pv) mix (XOK _ fun k a h => Go.SX.withRows_low h) hw (Go.SX.withRows_rows (by rfl)) hf tree_vt1 (main1 pv w hw hf)
  · exact Go.SX.calls_rows (fn := Go.SX.withRows fn0 sh pv) mix (XOK _ fun k a h => Go.SX.withRows_low h) hw (Go.SX.withRows_rows (by rfl)) hf tree_vt2 (main2 pv w hw hf)
  · exact Go.SX.calls_rows (fn := Go.SX.withRows fn0 sh pv) mix (XOK _ fun k a h => Go.SX.withRows_low h) hw (Go.SX.withRows_rows (by rfl)) hf tree_vt3 (main3 pv w hw hf)
  · exact Go.SX.calls_rows (fn := Go.SX.withRows fn0 sh pv) mix (XOK _ fun k a h => Go.SX.withRows_low h) hw (Go.SX.withRows_rows (by rfl)) hf tree_vt4 (main4 pv w hw hf)
  · exact Go.SX.calls_rows (fn := Go.SX.withRows fn0 sh pv) mix (XOK _ fun k a h => Go.SX.withRows_low h) hw (Go.SX.withRows_rows (by rfl)) hf tree_vt5 (main5 pv w hw hf)
  · exact Go.SX.calls_rows (fn := Go.SX.withRows fn0 sh pv) mix (XOK _ fun k a h => Go.SX.withRows_low h) hw (Go.SX.withRows_rows (by rfl)) hf tree_vt6 (main6 pv w hw hf)
  · exact Go.SX.calls_rows (fn := Go.SX.withRows fn0 sh pv) mix (XOK _ fun k a h => Go.SX.withRows_low h) hw (Go.SX.withRows_rows (by rfl)) hf tree_vt7 (main7 pv w hw hf)
  · exact Go.SX.calls_rows (fn := Go.SX.withRows fn0 sh pv) mix (XOK _ fun k a h => Go.SX.withRows_low h) hw (Go.SX.withRows_rows (by rfl)) hf tree_vt8 (main8 pv w hw hf)
  · exact Go.SX.calls_rows (fn := Go.SX.withRows fn0 sh pv) mix (XOK _ fun k a h => Go.SX.withRows_low h) hw (Go.SX.withRows_rows (by rfl)) hf tree_vt9 (main9 pv w hw hf)
  · exact Go.SX.calls_rows (fn := Go.SX.withRows fn0 sh pv) mix (XOK _ fun k a h => Go.SX.withRows_low h) hw (Go.SX.withRows_rows (by rfl)) hf tree_vt10 (main10 pv w hw hf)
  · exact Go.SX.calls_rows (fn := Go.SX.withRows fn0 sh pv) mix (XOK _ fun k a h => Go.SX.withRows_low h) hw (Go.SX.withRows_rows (by rfl)) hf tree_vt11 (main11 pv w hw hf)
  · exact Go.SX.calls_rows (fn := Go.SX.withRows fn0 sh pv) mix (XOK _ fun k a h => Go.SX.withRows_low h) hw (Go.SX.withRows_rows (by rfl)) hf tree_vt12 (main12 pv w hw hf)
  · exact Go.SX.calls_rows (fn := Go.SX.withRows fn0 sh pv) mix (XOK _ fun k a h => Go.SX.withRows_low h) hw (Go.SX.withRows_rows (by rfl)) hf tree_vt13 (main13 pv w hw hf)
  · exact Go.SX.calls_rows (fn := Go.SX.withRows fn0 sh pv) mix (XOK _ fun k a h => Go.SX.withRows_low h) hw (Go.SX.withRows_rows (by rfl)) hf tree_vt14 (main14 pv w hw hf)
  · exact Go.SX.calls_rows (fn := Go.SX.withRows fn0 sh pv) mix (XOK _ fun k a h => Go.SX.withRows_low h) hw (Go.SX.withRows_rows (by rfl)) hf tree_vt15 (main15 pv w hw hf)
  · exact Go.SX.calls_rows (fn := Go.SX.withRows fn0 sh pv) mix (XOK _ fun k a h => Go.SX.withRows_low h) hw (Go.SX.withRows_rows (by rfl)) hf tree_vt16 (main16 pv w hw hf)
  · exact Go.SX.calls_rows (fn := Go.SX.withRows fn0 sh pv) mix (XOK _ fun k a h => Go.SX.withRows_low h) hw (Go.SX.withRows_rows (by rfl)) hf tree_vt17 (main17 pv w hw hf)
  · exact Go.SX.calls_rows (fn := Go.SX.withRows fn0 sh pv) mix (XOK _ fun k a h => Go.SX.withRows_low h) hw (Go.SX.withRows_rows (by rfl)) hf tree_vt18 (main18 pv w hw hf)
  · exact Go.SX.calls_rows (fn := Go.SX.withRows fn0 sh pv) mix (XOK _ fun k a h => Go.SX.withRows_low h) hw (Go.SX.withRows_rows (by rfl)) hf tree_vt19 (main19 pv w hw hf)
  · exact Go.SX.calls_rows (fn := Go.SX.withRows fn0 sh pv) mix (XOK _ fun k a h => Go.SX.withRows_low h) hw (Go.SX.withRows_rows (by rfl)) hf tree_vt20 (main20 pv w hw hf)
  · exact Go.SX.calls_rows (fn := Go.SX.withRows fn0 sh pv) mix (XOK _ fun k a h => Go.SX.withRows_low h) hw (Go.SX.withRows_rows (by rfl)) hf tree_vt21 (main21 pv w hw hf)
  · exact Go.SX.calls_rows (fn := Go.SX.withRows fn0 sh pv) mix (XOK _ fun k a h => Go.SX.withRows_low h) hw (Go.SX.withRows_rows (by rfl)) hf tree_vt22 (main22 pv w hw hf)
  · exact Go.SX.calls_rows (fn := Go.SX.withRows fn0 sh pv) mix (XOK _ fun k a h => Go.SX.withRows_low h) hw (Go.SX.withRows_rows (by rfl)) hf tree_vt23 (main23 pv w hw hf)
  · exact Go.SX.calls_rows (fn := Go.SX.withRows fn0 sh pv) mix (XOK _ fun k a h => Go.SX.withRows_low h) hw (Go.SX.withRows_rows (by rfl)) hf tree_vt24 (main24 pv w hw hf)
  · exact Go.SX.calls_rows (fn := Go.SX.withRows fn0 sh pv) mix (XOK _ fun k a h => Go.SX.withRows_low h) hw (Go.SX.withRows_rows (by rfl)) hf tree_vt25 (main25 pv w hw hf)
  · exact Go.SX.calls_rows (fn := Go.SX.withRows fn0 sh pv) mix (XOK _ fun k a h => Go.SX.withRows_low h) hw (Go.SX.withRows_rows (by rfl)) hf tree_vt26 (main26 pv w hw hf)
  · exact Go.SX.calls_rows (fn := Go.SX.withRows fn0 sh pv) mix (XOK _ fun k a h => Go.SX.withRows_low h) hw (Go.SX.withRows_rows (by rfl)) hf tree_vt27 (main27 pv w hw hf)
  · exact Go.SX.calls_rows (fn := Go.SX.withRows fn0 sh pv) mix (XOK _ fun k a h => Go.SX.withRows_low h) hw (Go.SX.withRows_rows (by rfl)) hf tree_vt28 (main28 pv w hw hf)
  · exact Go.SX.calls_rows (fn := Go.SX.withRows fn0 sh pv) mix (XOK _ fun k a h => Go.SX.withRows_low h) hw (Go.SX.withRows_rows (by rfl)) hf tree_vt29 (main29 pv w hw hf)
theorem walk (w : World) (xs0 : List Int) (xs1 : List Int) (xs2 : List Int) (xs3 : List Int) (xs4 : List Int) (xs5 : List Int) (xs6 : List Int) (xs7 : List Int) (w0 : Go.SX.wfL ks0 xs0) (w1 : Go.SX.wfL ks1 xs1) (w2 : Go.SX.wfL ks2 xs2) (w3 : Go.SX.wfL ks3 xs3) (w4 : Go.SX.wfL ks4 xs4) (w5 : Go.SX.wfL ks5 xs5) (w6 : Go.SX.wfL ks6 xs6) (w7 : Go.SX.wfL ks7 xs7) :
    Calls Try.prog 6 #[(Go.SX.valsL ks0 xs0).getD 0 undef, (Go.SX.valsL ks1 xs1).getD 0 undef, (Go.SX.valsL ks2 xs2).getD 0 undef, (Go.SX.valsL ks3 xs3).getD 0 undef, (Go.SX.valsL ks4 xs4).getD 0 undef, (Go.SX.valsL ks5 xs5).getD 0 undef, (Go.SX.valsL ks6 xs6).getD 0 undef, (Go.SX.valsL ks7 xs7).getD 0 undef] w fun e w' => e = .returned (.bool true) ∧ Below w.heap.size w w' :=
  walkAll [.flat xs0, .flat xs1, .flat xs2, .flat xs3, .flat xs4, .flat xs5, .flat xs6, .flat xs7] w ⟨_, _, rfl, ⟨w0, (fun _ => rfl)⟩, ⟨_, _, rfl, ⟨w1, (fun _ => rfl)⟩, ⟨_, _, rfl, ⟨w2, (fun _ => rfl)⟩, ⟨_, _, rfl, ⟨w3, (fun _ => rfl)⟩, ⟨_, _, rfl, ⟨w4, (fun _ => rfl)⟩, ⟨_, _, rfl, ⟨w5, (fun _ => rfl)⟩, ⟨_, _, rfl, ⟨w6, (fun _ => rfl)⟩, ⟨_, _, rfl, ⟨w7, (fun _ => rfl)⟩, rfl⟩⟩⟩⟩⟩⟩⟩⟩

set_option maxRecDepth 100000 in
theorem lifted (os : Os) (started : os.Started) (H : Type) (enc : TypeId × Value → H) :
    ReturnsInHanded {} Try.checked os 6 .any (Rows.protectVotingSpec.pre6 enc Try.prog Try.f6 Rows.protectVotingRow.domain false) (Rows.protectVotingSpec.post enc Try.prog Try.f6 false true false false) := by
  refine returnsInHanded_of_change (C := Try.checked) own started (by kernel_rfl) Try.func6
    (ChangeSpec.witness6 (enc := enc) (C := Try.checked) false ⟨#[], #[.int .u8 0, .int .u16 0, .int .i32 0, .int .i16 0, .int .i16 0, .int .i64 0, .bool false, .int .u8 0], []⟩ 8 (by kernel_rfl) (by kernel_rfl) (by kernel_rfl) (by kernel_rfl)) ?_
  intro W base args ds gs before hval0 hW hcnd _
  have hval : ∀ (j : Nat) t v, Try.f6.params[j]? = some t → args[j]? = some v → Value.okWide Try.prog W .any base t v := hval0
  have hW' := hW
  obtain ⟨p, q, hA0, hV, rfl, hfz, hnd⟩ := hW
  have hA : DataW.TrodAll enc Try.prog W 0 (fun _ => true) true Try.f6.params.toList args.toList ds p := hA0
  rw [Try.params6] at hA hval
  obtain ⟨v0, vs0, d0, ds0, p0, q0, hargs, rfl, rfl, h0, r0⟩ := trodAll_cons hA
  obtain ⟨v1, vs1, d1, ds1, p1, q1, rfl, rfl, rfl, h1, r1⟩ := trodAll_cons r0
  obtain ⟨v2, vs2, d2, ds2, p2, q2, rfl, rfl, rfl, h2, r2⟩ := trodAll_cons r1
  obtain ⟨v3, vs3, d3, ds3, p3, q3, rfl, rfl, rfl, h3, r3⟩ := trodAll_cons r2
  obtain ⟨v4, vs4, d4, ds4, p4, q4, rfl, rfl, rfl, h4, r4⟩ := trodAll_cons r3
  obtain ⟨v5, vs5, d5, ds5, p5, q5, rfl, rfl, rfl, h5, r5⟩ := trodAll_cons r4
  obtain ⟨v6, vs6, d6, ds6, p6, q6, rfl, rfl, rfl, h6, r6⟩ := trodAll_cons r5
  obtain ⟨v7, vs7, d7, ds7, p7, q7, rfl, rfl, rfl, h7, r7⟩ := trodAll_cons r6
  obtain ⟨rfl, rfl, rfl⟩ := trodAll_nil r7
  obtain rfl : args = #[v0, v1, v2, v3, v4, v5, v6, v7] := by cases args; simp_all
  obtain ⟨rfl, rfl⟩ := trodVars_none hV
  have k0 := h0
  have lt0 : ∀ x ∈ p0, x.block < W.heap.size := by obtain ⟨m, hm⟩ := k0; exact DataW.trod_lt m _ _ _ hm
  obtain ⟨xs0, rfl, w0⟩ := Go.SX.open_flat1 (k := some .u8) Try.underlying5 (hval 0 5 v0 rfl rfl) h0
  have k1 := h1
  have lt1 : ∀ x ∈ p1, x.block < W.heap.size := by obtain ⟨m, hm⟩ := k1; exact DataW.trod_lt m _ _ _ hm
  obtain ⟨xs1, rfl, w1⟩ := Go.SX.open_flat1 (k := some .u16) Try.underlying92 (hval 1 92 v1 rfl rfl) h1
  have k2 := h2
  have lt2 : ∀ x ∈ p2, x.block < W.heap.size := by obtain ⟨m, hm⟩ := k2; exact DataW.trod_lt m _ _ _ hm
  obtain ⟨xs2, rfl, w2⟩ := Go.SX.open_flat1 (k := some .i32) Try.underlying21 (hval 2 21 v2 rfl rfl) h2
  have k3 := h3
  have lt3 : ∀ x ∈ p3, x.block < W.heap.size := by obtain ⟨m, hm⟩ := k3; exact DataW.trod_lt m _ _ _ hm
  obtain ⟨xs3, rfl, w3⟩ := Go.SX.open_flat1 (k := some .i16) Try.underlying93 (hval 3 93 v3 rfl rfl) h3
  have k4 := h4
  have lt4 : ∀ x ∈ p4, x.block < W.heap.size := by obtain ⟨m, hm⟩ := k4; exact DataW.trod_lt m _ _ _ hm
  obtain ⟨xs4, rfl, w4⟩ := Go.SX.open_flat1 (k := some .i16) Try.underlying93 (hval 4 93 v4 rfl rfl) h4
  have k5 := h5
  have lt5 : ∀ x ∈ p5, x.block < W.heap.size := by obtain ⟨m, hm⟩ := k5; exact DataW.trod_lt m _ _ _ hm
  obtain ⟨xs5, rfl, w5⟩ := Go.SX.open_flat1 (k := some .i64) Try.underlying2 (hval 5 2 v5 rfl rfl) h5
  have k6 := h6
  have lt6 : ∀ x ∈ p6, x.block < W.heap.size := by obtain ⟨m, hm⟩ := k6; exact DataW.trod_lt m _ _ _ hm
  obtain ⟨xs6, rfl, w6⟩ := Go.SX.open_flat1 (k := none) Try.underlying4 (hval 6 4 v6 rfl rfl) h6
  have k7 := h7
  have lt7 : ∀ x ∈ p7, x.block < W.heap.size := by obtain ⟨m, hm⟩ := k7; exact DataW.trod_lt m _ _ _ hm
  obtain ⟨xs7, rfl, w7⟩ := Go.SX.open_flat1 (k := some .u8) Try.underlying5 (hval 7 5 v7 rfl rfl) h7
  clear hA0 hval0
  refine (walk W xs0 xs1 xs2 xs3 xs4 xs5 xs6 xs7 w0 w1 w2 w3 w4 w5 w6 w7).mono fun e W' ⟨he, bel⟩ => ?_
  subst he
  exact ⟨_, rfl, _, _, _, [], _, [], hW', trodAll_mk1 (shut_bool Try.underlying4 _), (trodAll_cons_mk (Below.trod laidOut (by kernel_rfl) (of_decide_eq_true (by kernel_rfl)) k0 bel lt0) (trodAll_cons_mk (Below.trod laidOut (by kernel_rfl) (of_decide_eq_true (by kernel_rfl)) k1 bel lt1) (trodAll_cons_mk (Below.trod laidOut (by kernel_rfl) (of_decide_eq_true (by kernel_rfl)) k2 bel lt2) (trodAll_cons_mk (Below.trod laidOut (by kernel_rfl) (of_decide_eq_true (by kernel_rfl)) k3 bel lt3) (trodAll_cons_mk (Below.trod laidOut (by kernel_rfl) (of_decide_eq_true (by kernel_rfl)) k4 bel lt4) (trodAll_cons_mk (Below.trod laidOut (by kernel_rfl) (of_decide_eq_true (by kernel_rfl)) k5 bel lt5) (trodAll_cons_mk (Below.trod laidOut (by kernel_rfl) (of_decide_eq_true (by kernel_rfl)) k6 bel lt6) (trodAll_cons_mk (Below.trod laidOut (by kernel_rfl) (of_decide_eq_true (by kernel_rfl)) k7 bel lt7) trodAll_mk0)))))))), rfl, bel.frame _, fun h => by cases h⟩

theorem over : Rows.protectVotingRow.holds Try.pinned (OpenSpec.ofChange Rows.protectVotingSpec) :=
  OpenClaim.holds_of_wide 6 Try.f6 rfl rfl rfl rfl rfl rfl rfl ⟨rfl, rfl, rfl, rfl, rfl⟩ rfl rfl rfl rfl rfl (by kernel_rfl) Try.func6 (by kernel_rfl)
    (of_decide_eq_true (by kernel_rfl)) (by unfold Func.isWrapper; first | (rw [if_pos (by decide +kernel)]; kernel_rfl) | (rw [if_neg (by decide +kernel)]; exact ⟨rfl, rfl⟩))
    (fun os started H enc _ => lifted os started H enc)

/-- THE STATEMENT -/
theorem proved : Rows.ProtectVotingSaid := over
#print axioms proved
end Go.Proofs.Ytbphajopcmiadaa.protectVoting
