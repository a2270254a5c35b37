/- Plain arithmetic: what the reference's roundings return is what the program's do (no program in sight). -/
import Derived.Test.YtlaalhbicblbeaaWh
namespace Go.Proofs.Ytlaalhbicblbeaa.QM
theorem Cl.neg {a b : Int} (h : Cl a b) : Cl (-a) (-b) := by unfold Cl at *; omega
theorem Cl.symm {a b : Int} (h : Cl a b) : Cl b a := by unfold Cl at *; omega
theorem Cl.trans {a b c : Int} (h : Cl a b) (k : Cl b c) : Cl a c := by unfold Cl at *; omega
def up (x n d : Int) : Int := -dn (-x) n d
theorem up_cl {x n d : Int} (hd : 0 < d) : Cl (up x n d) (ce x n d) := by
  have h := (dn_cl (x := -x) (n := n) hd).neg
  unfold fl at h
  rw [Int.neg_mul] at h
  exact h
def rr (x n d : Int) : Int :=
  if decide (x < 0) = decide (n < 0) ∨ x = 0 ∨ n = 0 then (if d ≤ 2 * wr x.natAbs n.natAbs d then wq x.natAbs n.natAbs d + 1 else wq x.natAbs n.natAbs d)
  else -(if d < 2 * wr x.natAbs n.natAbs d then wq x.natAbs n.natAbs d + 1 else wq x.natAbs n.natAbs d)
theorem rr_cl {x n d : Int} (hd : 0 < d) : Cl (rr x n d) (ro x n d) := by
  have hq : ((x.natAbs : Nat) : Int) * ((n.natAbs : Nat) : Int) / d = (qN x n d : Int) := by
    have := wq_nat x n d
    rwa [show ((d.natAbs : Nat) : Int) = d by omega] at this
  have hr : ((x.natAbs : Nat) : Int) * ((n.natAbs : Nat) : Int) % d = (rN x n d : Int) := by
    have := wr_nat x n d
    rwa [show ((d.natAbs : Nat) : Int) = d by omega] at this
  have hlt : (rN x n d : Int) < d := by rw [← hr]; exact Int.emod_lt_of_pos _ hd
  unfold rr ro wq wr
  rw [hq, hr]
  by_cases h : decide (x < 0) = decide (n < 0)
  · rw [if_pos (Or.inl h), sR_pos hd h, fl_pos hd h]
    unfold Cl; (repeat' split) <;> omega
  · rw [sR_neg hd h, fl_neg hd h]
    by_cases h0 : x = 0 ∨ n = 0
    · rw [if_pos (Or.inr h0)]
      have z : x.natAbs * n.natAbs = 0 := by rcases h0 with rfl | rfl <;> simp
      have z1 : rN x n d = 0 := by unfold rN; rw [z]; simp
      have z2 : qN x n d = 0 := by unfold qN; rw [z]; simp
      rw [z1, z2]
      unfold Cl; (repeat' split) <;> omega
    · rw [if_neg (by intro k; rcases k with k | k; exact h k; exact h0 k)]
      unfold Cl; (repeat' split) <;> omega
theorem rnd_F (x n d : Int) : rnd vF x n d = rnd dn x n d := rnd_congr fun hd => (vF_cl hd).trans (dn_cl hd).symm
theorem rnd_C (x n d : Int) : rnd vC x n d = rnd up x n d := rnd_congr fun hd => (vC_cl hd).trans (up_cl hd).symm
theorem rnd_R (x n d : Int) : rnd vN x n d = rnd rr x n d := rnd_congr fun hd => (vN_cl hd).trans (rr_cl hd).symm
theorem dn_bd {x n d : Int} (hd : d ≠ 0) : -1152921504606846977 ≤ dn x n d ∧ dn x n d ≤ 1152921504606846977 := by
  have h1 := wq_bd (x := x.natAbs) (n := n.natAbs) (d := d.natAbs) (by omega) (by omega) (by omega)
  unfold dn
  split
  · omega
  · split <;> omega
theorem rr_bd {x n d : Int} (hd : 0 < d) : -1152921504606846977 ≤ rr x n d ∧ rr x n d ≤ 1152921504606846977 := by
  have h1 := wq_bd (x := x.natAbs) (n := n.natAbs) (d := d) (by omega) (by omega) (by omega)
  unfold rr
  split <;> split <;> omega
end Go.Proofs.Ytlaalhbicblbeaa.QM
