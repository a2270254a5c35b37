/- What the reference's Square returns is what the program's does (plain arithmetic), and the contracts of Down and Up for quiet regions. -/
import Derived.Test.YtlaalhbicblbeaaRf5
import Derived.Test.YtlaalhbicblbeaaOp4
import Derived.Deep.RegionWith
namespace Go.Proofs.Ytlaalhbicblbeaa
open Go.RowKit
theorem Cl_nonneg {x y : Int} (h : QM.Cl x y) (hy : 0 ≤ y) : 0 ≤ x := by unfold QM.Cl at h; omega
def rsqP (lo hi d : Int) : Int × Int × Int := QM.sp (if (decide (lo ≤ 0) && decide (0 ≤ hi)) = true then 0 else min (QM.dn lo lo d) (QM.dn hi hi d)) (max (QM.up lo lo d) (QM.up hi hi d))
theorem sq_eq {lo hi d : Int} (v1 : QM.vld lo hi = true) (h3 : QM.isD d = true) : squareP lo hi d = rsqP lo hi d := by
  have hd : 0 < d := by have := QM.isD_bd h3; omega
  have D : ∀ x, QM.Cl (QM.vF x x d) (QM.dn x x d) := fun x => (QM.vF_cl hd).trans (QM.dn_cl hd).symm
  have U : ∀ x, QM.Cl (QM.vC x x d) (QM.up x x d) := fun x => (QM.vC_cl hd).trans (QM.up_cl hd).symm
  have fn : ∀ x : Int, 0 ≤ QM.fl x x d := fun x => by unfold QM.fl; exact Int.ediv_nonneg (by rw [← Int.natAbs_mul_self' x]; exact Int.mul_nonneg (by omega) (by omega)) (by omega)
  have cn : ∀ x : Int, 0 ≤ QM.ce x x d := fun x => by
    have h := QM.ce_eq (a := x) (b := x) hd
    have := fn x
    rw [h]; split <;> omega
  have nF : ∀ x, 0 ≤ QM.vF x x d := fun x => Cl_nonneg (QM.vF_cl hd) (fn x)
  have nC : ∀ x, 0 ≤ QM.vC x x d := fun x => Cl_nonneg (QM.vC_cl hd) (cn x)
  have z0 : QM.vF 0 0 d = 0 := by
    have := (QM.vF_cl (a := 0) (b := 0) hd).eq (by unfold QM.fl; simp [QM.isQ])
    rw [this]; unfold QM.fl; simp
  have z1 : QM.vC 0 0 d = 0 := by
    have := (QM.vC_cl (a := 0) (b := 0) hd).eq (by unfold QM.ce; simp [QM.isQ])
    rw [this]; unfold QM.ce; simp
  unfold squareP rsqP
  rw [if_pos ⟨v1, h3⟩]
  cases hk : (decide (lo ≤ 0) && decide (0 ≤ hi))
  · rw [if_neg (by simp), if_neg (by simp)]
    exact QM.Cl.sp ((D lo).min (D hi)) ((U lo).max (U hi))
  · rw [if_pos rfl, if_pos rfl]
    unfold loF hiF
    simp only [List.foldl_cons, List.foldl_nil, z0, z1]
    have a := nF lo
    have b := nF hi
    have c := nC lo
    refine QM.Cl.sp ?_ ?_
    · rw [show min (min 0 (QM.vF lo lo d)) (QM.vF hi hi d) = 0 by omega]; exact QM.Cl.refl _
    · rw [show max (max 0 (QM.vC lo lo d)) (QM.vC hi hi d) = max (QM.vC lo lo d) (QM.vC hi hi d) by omega]
      exact (U lo).max (U hi)
theorem Down_q (x n d : Int) (v : Int) (hv : QM.dn x n d = v) (h : -9000000000000 ≤ x ∧ x ≤ 9000000000000 ∧ -9000000000000 ≤ n ∧ n ≤ 9000000000000 ∧ -9000000000000 ≤ d ∧ d ≤ 9000000000000 ∧ d ≠ 0) (w : World) :
    Calls Try.prog 79 #[.int .i64 x, .int .i64 n, .int .i64 d] w fun e w' => e = .returned (.int .i64 v) ∧ w' = w := by
  rw [← hv]
  exact (Down_any x n d w h.1 h.2.1 h.2.2.1 h.2.2.2.1 h.2.2.2.2.1 h.2.2.2.2.2.1 h.2.2.2.2.2.2).mono fun _ _ ⟨a, b⟩ => ⟨a, b.symm⟩
theorem Up_q (x n d : Int) (v : Int) (hv : QM.up x n d = v) (h : -9000000000000 ≤ x ∧ x ≤ 9000000000000 ∧ -9000000000000 ≤ n ∧ n ≤ 9000000000000 ∧ -9000000000000 ≤ d ∧ d ≤ 9000000000000 ∧ d ≠ 0) (w : World) :
    Calls Try.prog 81 #[.int .i64 x, .int .i64 n, .int .i64 d] w fun e w' => e = .returned (.int .i64 v) ∧ w' = w := by
  rw [← hv]
  exact (Up_any x n d w h.1 h.2.1 h.2.2.1 h.2.2.2.1 h.2.2.2.2.1 h.2.2.2.2.2.1 h.2.2.2.2.2.2).mono fun _ _ ⟨a, b⟩ => ⟨a, b.symm⟩
end Go.Proofs.Ytlaalhbicblbeaa
