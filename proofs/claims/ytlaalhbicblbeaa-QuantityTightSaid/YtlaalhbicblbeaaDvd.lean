/- The contract of (digits).divide: a two-word number by a divisor. -/
import Derived.Test.YtlaalhbicblbeaaDiv
import Derived.Test.YtlaalhbicblbeaaAmt
namespace Go.Proofs.Ytlaalhbicblbeaa
open Go.RowKit
set_option maxRecDepth 100000 in
set_option maxHeartbeats 1000000 in
theorem divide_any (hi lo den : Nat) (w : World) (hhi : hi ≤ 18446744073709551615) (hlo : lo ≤ 18446744073709551615) (hd : 1 ≤ den) (hd2 : den ≤ 9223372036854775807) :
    Calls Try.prog 133 #[.agg #[.int .u64 hi, .int .u64 lo], .int .i64 den] w fun e w' => e = .returned (.tuple #[.agg #[.int .u64 (hi / den : Nat), .int .u64 ((hi % den * 18446744073709551616 + lo) / den : Nat)], .int .i64 ((hi % den * 18446744073709551616 + lo) % den : Nat)]) ∧ Below w.heap.size w w' := by
  have hm : hi % den < den := Nat.mod_lt _ (by omega)
  have hm2 : (hi % den * 18446744073709551616 + lo) % den < den := Nat.mod_lt _ (by omega)
  obtain ⟨m, hmm⟩ : ∃ m : Nat, m = hi % den := ⟨_, rfl⟩
  obtain ⟨q, hqq⟩ : ∃ q : Nat, q = hi / den := ⟨_, rfl⟩
  obtain ⟨m2, hmm2⟩ : ∃ m2 : Nat, m2 = (hi % den * 18446744073709551616 + lo) % den := ⟨_, rfl⟩
  obtain ⟨q2, hqq2⟩ : ∃ q2 : Nat, q2 = (hi % den * 18446744073709551616 + lo) / den := ⟨_, rfl⟩
  have D0 : ∀ W, Calls Try.prog 136 #[.int .u64 0, .int .u64 hi, .int .u64 den] W fun e w' => e = .returned (.tuple #[.int .u64 q, .int .u64 m]) ∧ ∃ n, w' = W.drewN n := by
    intro W
    have := div_any 0 hi den W hhi (by omega) (by omega)
    rw [Nat.zero_mul, Nat.zero_add, ← hmm, ← hqq] at this
    exact this
  have D1 : ∀ W, Calls Try.prog 136 #[.int .u64 m, .int .u64 lo, .int .u64 den] W fun e w' => e = .returned (.tuple #[.int .u64 q2, .int .u64 m2]) ∧ ∃ n, w' = W.drewN n := by
    intro W
    have := div_any (hi % den) lo den W hlo hm (by omega)
    rw [← hmm2, ← hqq2, ← hmm] at this
    exact this
  rw [← hmm2, ← hqq2, ← hqq]
  rw [← hmm] at hm
  rw [← hmm2] at hm2
  have H0 := Lib.hid D0
  have H1 := Lib.hid D1
  clear D0 D1 hmm hmm2 hqq hqq2
  have sd : ∀ (w : World) (n : Nat) (a : Addr) (v : Value), (w.drewN n).setCell a v = (w.setCell a v).drewN n := fun _ _ _ _ => rfl
  go_enter Try.func133, Try.ntmps133
  go_wp2_with fail
  refine wp_loop_rounds 3 ?_
  rw [rounds_succ]
  go_wp2_with fail
  refine (H0.out _).mono ?_
  rintro e w' ⟨rfl, n, rfl⟩
  go_wp2_with fail
  rw [rounds_succ]
  go_wp2_with fail
  refine (H1.out _).mono ?_
  rintro e w' ⟨rfl, n, rfl⟩
  go_wp2_with fail
  rw [rounds_succ]
  go_wp2_with fail
  exact bodyPost_ret (v := .tuple #[.agg #[.int .u64 q, .int .u64 q2], .int .i64 m2]) (by simp [results, Try.results133, go_sem]) rfl ⟨rfl, below_drewN (by repeat (first | exact Below.refl _ _ | refine Below.drew ?_ | refine below_drewN ?_ _ | refine Below.setCell ?_ (by simp) _ | refine Below.alloc ?_ (by simp) _)) _⟩
end Go.Proofs.Ytlaalhbicblbeaa
