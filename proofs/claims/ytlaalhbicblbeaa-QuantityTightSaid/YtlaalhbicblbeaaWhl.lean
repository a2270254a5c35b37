/- The contracts of the reference's whole, abs and Down. -/
import Derived.Test.YtlaalhbicblbeaaWh
import Derived.Test.YtlaalhbicblbeaaRnd
namespace Go.Proofs.Ytlaalhbicblbeaa
open Go.RowKit
set_option maxRecDepth 100000 in
set_option maxHeartbeats 4000000 in
theorem whole_any (x n d : Int) (w : World) (hx : 0 ≤ x) (hx2 : x ≤ 9000000000000) (hn : 0 ≤ n) (hn2 : n ≤ 9000000000000) (hd : 1 ≤ d) (hd2 : d ≤ 9000000000000) :
    Calls Try.prog 83 #[.int .i64 x, .int .i64 n, .int .i64 d] w fun e w' => e = .returned (.tuple #[.int .i64 (QM.wq x n d), .int .i64 (QM.wr x n d)]) ∧ w = w' := by
  have q1 : 0 ≤ x / d := Int.ediv_nonneg hx (by omega)
  have q2 : x / d ≤ 9000000000000 := Int.le_trans (Int.ediv_le_self _ hx) hx2
  have q3 := Int.emod_nonneg x (show d ≠ 0 by omega)
  have q4 := Int.emod_lt_of_pos x (show 0 < d by omega)
  have hz : (d == 0) = false := by simp; omega
  go_enter Try.func83, Try.ntmps83
  go_wp2_with fail
  go_loop [8, 9, 10] (fun a b c => ∃ i q r : Int, a = .int .i64 q ∧ b = .int .i64 r ∧ c = .int .i64 i ∧ -1 ≤ i ∧ i ≤ 43 ∧ QM.Wh x n d (i + 1).toNat q r) (fun _ _ c => (intOf c + 1).toNat)
  case atStart => exact ⟨43, 0, 0, rfl, rfl, rfl, by omega, by omega, QM.wh_start hn hn2 hd⟩
  case round =>
    obtain ⟨i, q, r, rfl, rfl, rfl, hi1, hi2, hW⟩ := hrel
    by_cases hi : 0 ≤ i
    · rw [show (i + 1).toNat = i.toNat + 1 by omega] at hW
      have h2 := hW.2.1
      have h3 := hW.2.2.1
      have h4 := hW.2.2.2.1
      have h5 := hW.2.2.2.2
      have p0 : 0 ≤ n / 2 ^ i.toNat := Int.ediv_nonneg hn (Int.le_of_lt (Int.pow_pos (by decide)))
      have m1 : min i.toNat 64 = i.toNat := by omega
      rcases Int.emod_two_eq (n / 2 ^ i.toNat) with hb | hb
      · have hbb : (n / 2 ^ i.toNat % 2 == 1) = false := by simp; omega
        by_cases r1 : 2 * r < d
        · -- none
          have hsum := QM.wh_sum0 (q' := 2 * q) (r' := 2 * r) (k := 0) hW hb (by omega) (by omega)
          have HS := Lib.hid hsum
          clear hsum hW hb
          by_cases big : 288230376151711744 < 2 * q
          · have hB := QM.wh_big hx hn hd HS.out (by omega) big
            have HB := Lib.hid hB
            clear hB
            go_wp2_with fail
            refine wp_loop_rounds 1 ?_
            rw [rounds_succ]
            go_wp2_with fail
            go_ret2
            exact ⟨by rw [HB.out.1, HB.out.2]; rfl, rfl⟩
          · go_wp2_with fail
            refine wp_loop_rounds 1 ?_
            rw [rounds_succ]
            go_wp2_with fail
            go_round
            case rel => exact ⟨i - 1, _, _, rfl, rfl, rfl, by omega, by omega, by rw [show (i - 1 + 1).toNat = i.toNat by omega]; exact ⟨HS.out, by omega, by omega, by omega, by omega⟩⟩
            case measure => simp [intOf]; omega
        · by_cases r2 : 2 * r < 2 * d
          · -- one
            have hsum := QM.wh_sum0 (q' := 2 * q + 1) (r' := 2 * r - d) (k := 1) hW hb (by omega) (by omega)
            have HS := Lib.hid hsum
            clear hsum hW hb
            by_cases big : 288230376151711744 < 2 * q + 1
            · have hB := QM.wh_big hx hn hd HS.out (by omega) big
              have HB := Lib.hid hB
              clear hB
              go_wp2_with fail
              refine wp_loop_rounds 2 ?_
              rw [rounds_succ]
              go_wp2_with fail
              rw [rounds_succ]
              go_wp2_with fail
              go_ret2
              exact ⟨by rw [HB.out.1, HB.out.2]; rfl, rfl⟩
            · go_wp2_with fail
              refine wp_loop_rounds 2 ?_
              rw [rounds_succ]
              go_wp2_with fail
              rw [rounds_succ]
              go_wp2_with fail
              go_round
              case rel => exact ⟨i - 1, _, _, rfl, rfl, rfl, by omega, by omega, by rw [show (i - 1 + 1).toNat = i.toNat by omega]; exact ⟨HS.out, by omega, by omega, by omega, by omega⟩⟩
              case measure => simp [intOf]; omega
          · -- two: none
            exfalso; omega
      · have hbb : (n / 2 ^ i.toNat % 2 == 1) = true := by simp; omega
        by_cases r1 : 2 * r + x % d < d
        · -- none
          have hsum := QM.wh_sum1 (q' := 2 * q + x / d) (r' := 2 * r + x % d) (k := 0) hW hb (by omega) (by omega)
          have HS := Lib.hid hsum
          clear hsum hW hb
          by_cases big : 288230376151711744 < 2 * q + x / d
          · have hB := QM.wh_big hx hn hd HS.out (by omega) big
            have HB := Lib.hid hB
            clear hB
            go_wp2_with fail
            refine wp_loop_rounds 1 ?_
            rw [rounds_succ]
            go_wp2_with fail
            go_ret2
            exact ⟨by rw [HB.out.1, HB.out.2]; rfl, rfl⟩
          · go_wp2_with fail
            refine wp_loop_rounds 1 ?_
            rw [rounds_succ]
            go_wp2_with fail
            go_round
            case rel => exact ⟨i - 1, _, _, rfl, rfl, rfl, by omega, by omega, by rw [show (i - 1 + 1).toNat = i.toNat by omega]; exact ⟨HS.out, by omega, by omega, by omega, by omega⟩⟩
            case measure => simp [intOf]; omega
        · by_cases r2 : 2 * r + x % d < 2 * d
          · -- one
            have hsum := QM.wh_sum1 (q' := 2 * q + x / d + 1) (r' := 2 * r + x % d - d) (k := 1) hW hb (by omega) (by omega)
            have HS := Lib.hid hsum
            clear hsum hW hb
            by_cases big : 288230376151711744 < 2 * q + x / d + 1
            · have hB := QM.wh_big hx hn hd HS.out (by omega) big
              have HB := Lib.hid hB
              clear hB
              go_wp2_with fail
              refine wp_loop_rounds 2 ?_
              rw [rounds_succ]
              go_wp2_with fail
              rw [rounds_succ]
              go_wp2_with fail
              go_ret2
              exact ⟨by rw [HB.out.1, HB.out.2]; rfl, rfl⟩
            · go_wp2_with fail
              refine wp_loop_rounds 2 ?_
              rw [rounds_succ]
              go_wp2_with fail
              rw [rounds_succ]
              go_wp2_with fail
              go_round
              case rel => exact ⟨i - 1, _, _, rfl, rfl, rfl, by omega, by omega, by rw [show (i - 1 + 1).toNat = i.toNat by omega]; exact ⟨HS.out, by omega, by omega, by omega, by omega⟩⟩
              case measure => simp [intOf]; omega
          · -- two
            have hsum := QM.wh_sum1 (q' := 2 * q + x / d + 1 + 1) (r' := 2 * r + x % d - d - d) (k := 2) hW hb (by omega) (by omega)
            have HS := Lib.hid hsum
            clear hsum hW hb
            by_cases big : 288230376151711744 < 2 * q + x / d + 1 + 1
            · have hB := QM.wh_big hx hn hd HS.out (by omega) big
              have HB := Lib.hid hB
              clear hB
              go_wp2_with fail
              refine wp_loop_rounds 3 ?_
              rw [rounds_succ]
              go_wp2_with fail
              rw [rounds_succ]
              go_wp2_with fail
              rw [rounds_succ]
              go_wp2_with fail
              go_ret2
              exact ⟨by rw [HB.out.1, HB.out.2]; rfl, rfl⟩
            · go_wp2_with fail
              refine wp_loop_rounds 3 ?_
              rw [rounds_succ]
              go_wp2_with fail
              rw [rounds_succ]
              go_wp2_with fail
              rw [rounds_succ]
              go_wp2_with fail
              go_round
              case rel => exact ⟨i - 1, _, _, rfl, rfl, rfl, by omega, by omega, by rw [show (i - 1 + 1).toNat = i.toNat by omega]; exact ⟨HS.out, by omega, by omega, by omega, by omega⟩⟩
              case measure => simp [intOf]; omega
    · have hi0 : i = -1 := by omega
      subst hi0
      have HE := Lib.hid (QM.wh_end hd hW)
      clear hW
      go_wp2_with fail
      go_ret2
      exact ⟨by rw [HE.out.1, HE.out.2]; rfl, rfl⟩
set_option maxHeartbeats 400000 in
theorem abs_neg (x : Int) (w : World) (h : x < 0) (h2 : -9000000000000 ≤ x) : Calls Try.prog 84 #[.int .i64 x] w fun e w' => e = .returned (.int .i64 (-x)) ∧ w = w' := by
  go_enter Try.func84, Try.ntmps84
  go_wp2
  go_ret
  exact ⟨rfl, rfl⟩
set_option maxHeartbeats 400000 in
theorem abs_pos (x : Int) (w : World) (h : 0 ≤ x) : Calls Try.prog 84 #[.int .i64 x] w fun e w' => e = .returned (.int .i64 x) ∧ w = w' := by
  go_enter Try.func84, Try.ntmps84
  go_wp2
  go_ret
  exact ⟨rfl, rfl⟩
theorem abs_any (x : Int) (w : World) (h : -9000000000000 ≤ x) : Calls Try.prog 84 #[.int .i64 x] w fun e w' => e = .returned (.int .i64 ((x.natAbs : Nat) : Int)) ∧ w = w' := by
  by_cases hx : x < 0
  · rw [show ((x.natAbs : Nat) : Int) = -x by omega]
    exact abs_neg x w hx h
  · rw [show ((x.natAbs : Nat) : Int) = x by omega]
    exact abs_pos x w (by omega)
set_option maxRecDepth 100000 in
set_option maxHeartbeats 1000000 in
theorem Down_any (x n d : Int) (w : World) (hx : -9000000000000 ≤ x) (hx2 : x ≤ 9000000000000) (hn : -9000000000000 ≤ n) (hn2 : n ≤ 9000000000000) (hd : -9000000000000 ≤ d) (hd2 : d ≤ 9000000000000) (hd0 : d ≠ 0) :
    Calls Try.prog 79 #[.int .i64 x, .int .i64 n, .int .i64 d] w fun e w' => e = .returned (.int .i64 (QM.dn x n d)) ∧ w = w' := by
  obtain ⟨X, hX⟩ : ∃ X : Int, X = ((x.natAbs : Nat) : Int) := ⟨_, rfl⟩
  obtain ⟨N, hN⟩ : ∃ N : Int, N = ((n.natAbs : Nat) : Int) := ⟨_, rfl⟩
  obtain ⟨D, hD⟩ : ∃ D : Int, D = ((d.natAbs : Nat) : Int) := ⟨_, rfl⟩
  obtain ⟨Q, hQ⟩ : ∃ Q : Int, Q = QM.wq X N D := ⟨_, rfl⟩
  obtain ⟨R, hR⟩ : ∃ R : Int, R = QM.wr X N D := ⟨_, rfl⟩
  have bq := QM.wq_bd (x := X) (n := N) (d := D) (by omega) (by omega) (by omega)
  have br := QM.wr_bd (x := X) (n := N) (d := D) (by omega)
  rw [← hQ] at bq
  rw [← hR] at br
  have CX := Lib.hid (fun W => abs_any x W hx)
  have CN := Lib.hid (fun W => abs_any n W hn)
  have CD := Lib.hid (fun W => abs_any d W hd)
  have CW := Lib.hid (fun W => whole_any X N D W (by omega) (by omega) (by omega) (by omega) (by omega) (by omega))
  rw [← hX] at CX
  rw [← hN] at CN
  rw [← hD] at CD
  rw [← hQ, ← hR] at CW
  have HV : QM.dn x n d = if (decide (decide (x < 0) ≠ decide (n < 0)) != decide (d < 0)) = false then Q else if 0 < R then -(Q + 1) else -Q := by
    unfold QM.dn; rw [← hX, ← hN, ← hD, ← hQ, ← hR]
  rw [HV]
  obtain ⟨b1, b2⟩ := bq
  obtain ⟨b3, b4⟩ := br
  have hDb : D ≤ 9000000000000 := by omega
  clear hX hN hD hQ hR HV
  rw [show (if 0 < R then -(Q + 1) else -Q) = if decide (0 < R) = true then -(Q + 1) else -Q by simp]
  rw [show decide (decide (x < 0) ≠ decide (n < 0)) = (decide (x < 0) != decide (n < 0)) by cases decide (x < 0) <;> cases decide (n < 0) <;> rfl]
  cases sx : decide (x < 0)
  all_goals cases sn : decide (n < 0)
  all_goals cases sd : decide (d < 0)
  all_goals cases hr : decide (0 < R)
  all_goals simp (config := { decide := true }) only [if_true, if_false]
  all_goals go_enter Try.func79, Try.ntmps79
  all_goals go_wp2_with fail
  all_goals (refine (CX.out _).mono ?_; rintro e w' ⟨rfl, rfl⟩; go_wp2_with fail; refine (CN.out _).mono ?_; rintro e w' ⟨rfl, rfl⟩; go_wp2_with fail; refine (CD.out _).mono ?_; rintro e w' ⟨rfl, rfl⟩; go_wp2_with fail; refine (CW.out _).mono ?_; rintro e w' ⟨rfl, rfl⟩; go_wp2_with fail)
  all_goals go_ret
  all_goals exact ⟨rfl, rfl⟩
end Go.Proofs.Ytlaalhbicblbeaa
