/- The contracts of amount and product. -/
import Derived.Test.YtlaalhbicblbeaaProg
import Derived.Test.YtlaalhbicblbeaaShelf
import Derived.WalkKit
import Derived.WalkSpells
import Derived.WalkLawsBesides
namespace Go.Proofs.Ytlaalhbicblbeaa
open Go.RowKit
set_option maxHeartbeats 400000 in
theorem amount_neg (x : Int) (w : World) (h : x < 0) (h2 : -9000000000000 ≤ x) :
    Calls Try.prog 135 #[.int .i64 x] w fun e w' => e = .returned (.int .u64 (-x)) ∧ w = w' := by
  go_enter Try.func135, Try.ntmps135
  go_wp2
  go_ret
  exact ⟨rfl, rfl⟩
set_option maxHeartbeats 400000 in
theorem amount_pos (x : Int) (w : World) (h : 0 ≤ x) (h2 : x ≤ 9000000000000) :
    Calls Try.prog 135 #[.int .i64 x] w fun e w' => e = .returned (.int .u64 x) ∧ w = w' := by
  go_enter Try.func135, Try.ntmps135
  go_wp2
  go_ret
  exact ⟨rfl, rfl⟩
/-- 'amount': the distance from 0. -/
theorem amount_any (x : Int) (w : World) (h : -9000000000000 ≤ x) (h2 : x ≤ 9000000000000) :
    Calls Try.prog 135 #[.int .i64 x] w fun e w' => e = .returned (.int .u64 ((x.natAbs : Nat) : Int)) ∧ w = w' := by
  by_cases hx : x < 0
  · rw [show ((x.natAbs : Nat) : Int) = -x by omega]
    exact amount_neg x w hx h
  · rw [show ((x.natAbs : Nat) : Int) = x by omega]
    exact amount_pos x w (by omega) h2
set_option maxHeartbeats 400000 in
theorem product_any (a b : Int) (w : World) (ha : -9000000000000 ≤ a) (ha2 : a ≤ 9000000000000) (hb : -9000000000000 ≤ b) (hb2 : b ≤ 9000000000000) :
    Calls Try.prog 132 #[.int .i64 a, .int .i64 b] w fun e w' => e = .returned (.agg #[.int .u64 ((a.natAbs * b.natAbs / 18446744073709551616 : Nat) : Int), .int .u64 ((a.natAbs * b.natAbs % 18446744073709551616 : Nat) : Int)]) ∧ Below w.heap.size w w' := by
  go_enter Try.func132, Try.ntmps132
  go_wp2_with fail
  refine (amount_any _ _ ha ha2).mono ?_
  rintro e w' ⟨rfl, rfl⟩
  go_wp2_with fail
  refine (amount_any _ _ hb hb2).mono ?_
  rintro e w' ⟨rfl, rfl⟩
  go_wp2_with fail
  refine (Try.bits_Mul64 a.natAbs b.natAbs (by omega) (by omega) _).mono ?_
  rintro e w' ⟨rfl, rfl⟩
  go_wp2_with fail
  exact bodyPost_ret (v := .agg #[.int .u64 ((a.natAbs * b.natAbs / 18446744073709551616 : Nat) : Int), .int .u64 ((a.natAbs * b.natAbs % 18446744073709551616 : Nat) : Int)]) (by simp [results, Try.results132, go_sem]) rfl ⟨rfl, (Below.refl _ _).alloc (Nat.le_refl _) _⟩
end Go.Proofs.Ytlaalhbicblbeaa
