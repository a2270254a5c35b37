/- The contract of works: the few examples hold. -/
import Derived.Test.YtegllhgpnadofaaMul
namespace Go.Proofs.Ytegllhgpnadofaa
open Go.RowKit
set_option maxRecDepth 100000 in
set_option maxHeartbeats 1000000 in
/-- 'works': the few examples -/
theorem works_any (w : World) : Calls Try.prog 21 #[] w fun e w' => e = .returned (.bool true) ∧ Below w.heap.size w w' := by
  have K1 := Lib.hid (fun W => Floor_any (-7) 1 2 W)
  have K2 := Lib.hid (fun W => Mul_any (-2) 3 (-5) 4 1 W)
  have K3 := Lib.hid (fun W => Has_any (-15) 12 0 W)
  rw [show QM.rnd QM.vF (-7) 1 2 = (-4, 0) by decide +kernel] at K1
  rw [show mulP (-2) 3 (-5) 4 1 = (-15, 12, 0) by decide +kernel] at K2
  rw [show (QM.vld (-15) 12 && (decide ((-15 : Int) ≤ 0) && decide ((0 : Int) ≤ 12))) = true by decide +kernel] at K3
  go_enter Try.func21, Try.ntmps21
  go_wp2_with fail
  refine (K1.out _).mono ?_
  rintro e w1 ⟨rfl, hb1⟩
  have hs1 := hb1.size
  go_wp2_with fail
  refine (K2.out _).mono ?_
  rintro e w2 ⟨rfl, hb2⟩
  have hs2 := hb2.size
  go_wp2_with fail
  refine (K3.out _).mono ?_
  rintro e w3 ⟨rfl, hb3⟩
  have hs3 := hb3.size
  go_wp2_with fail
  go_ret
  exact ⟨rfl, by repeat (first | exact Below.refl _ _ | assumption | refine Below.trans ?_ (hb3.mono (by first | (simp; done) | omega | (simp; omega))) | refine Below.trans ?_ (hb2.mono (by first | (simp; done) | omega | (simp; omega))) | refine Below.trans ?_ (hb1.mono (by first | (simp; done) | omega | (simp; omega))) | refine Below.drew ?_ | refine below_drewN ?_ _ | refine Below.setCell ?_ (by first | (simp; done) | omega | (simp; omega)) _ | refine Below.alloc ?_ (by first | (simp; done) | omega | (simp; omega)) _)⟩
end Go.Proofs.Ytegllhgpnadofaa
