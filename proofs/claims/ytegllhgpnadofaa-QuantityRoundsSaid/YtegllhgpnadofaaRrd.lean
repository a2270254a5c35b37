/- The contract of the reference's Round. -/
import Derived.Test.YtegllhgpnadofaaRef
namespace Go.Proofs.Ytegllhgpnadofaa
open Go.RowKit
set_option maxRecDepth 100000 in
set_option maxHeartbeats 4000000 in
theorem rRound_any (x n d : Int) (w : World) : Calls Try.prog 18 #[.int .i64 x, .int .i64 n, .int .i64 d] w fun e w' => e = .returned (.tuple #[.int .i64 (QM.rnd QM.rr x n d).1, .int .i64 (QM.rnd QM.rr x n d).2]) ∧ w = w' := by
  cases h1 : QM.isQ x
  · rw [QM.rnd_bad (fun h => by rw [h1] at h; exact absurd h.1 (by simp))]
    have H1 := Lib.hid h1
    have H2 := Lib.hid h1
    clear h1
    go_enter Try.func18, Try.ntmps18
    go_wp2_with (go_at_call 76; refine (Is_eq _ _ _ (by first | exact H1.out | exact H2.out)).mono ?_; rintro e w' ⟨rfl, rfl⟩)
    go_ret2
    exact ⟨rfl, rfl⟩
  · cases h2 : QM.isQ n
    · rw [QM.rnd_bad (fun h => by rw [h2] at h; exact absurd h.2.1 (by simp))]
      have H1 := Lib.hid h1
      have H2 := Lib.hid h2
      clear h1 h2
      go_enter Try.func18, Try.ntmps18
      go_wp2_with (go_at_call 76; refine (Is_eq _ _ _ (by first | exact H1.out | exact H2.out)).mono ?_; rintro e w' ⟨rfl, rfl⟩)
      go_ret2
      exact ⟨rfl, rfl⟩
    · cases h3 : QM.isD d
      · rw [QM.rnd_bad (fun h => by rw [h3] at h; exact absurd h.2.2 (by simp))]
        have H1 := Lib.hid h1
        have H2 := Lib.hid h2
        have H3 := Lib.hid h3
        clear h1 h2 h3
        go_enter Try.func18, Try.ntmps18
        go_wp2_with (first | (go_at_call 76; refine (Is_eq _ _ _ (by first | exact H1.out | exact H2.out)).mono ?_; rintro e w' ⟨rfl, rfl⟩) | (go_at_call 77; refine (den_eq _ _ _ H3.out).mono ?_; rintro e w' ⟨rfl, rfl⟩))
        go_ret2
        exact ⟨rfl, rfl⟩
      · rw [QM.rnd_good h1 h2 h3]
        obtain ⟨a1, a2⟩ := QM.isQ_bd h1
        obtain ⟨a3, a4⟩ := QM.isQ_bd h2
        obtain ⟨a5, a6⟩ := QM.isD_bd h3
        obtain ⟨X, hX⟩ : ∃ X : Int, X = ((x.natAbs : Nat) : Int) := ⟨_, rfl⟩
        obtain ⟨M, hM⟩ : ∃ M : Int, M = ((n.natAbs : Nat) : Int) := ⟨_, rfl⟩
        obtain ⟨Q, hQ⟩ : ∃ Q : Int, Q = QM.wq X M d := ⟨_, rfl⟩
        obtain ⟨R, hR⟩ : ∃ R : Int, R = QM.wr X M d := ⟨_, rfl⟩
        have bq := QM.wq_bd (x := X) (n := M) (d := d) (by omega) (by omega) (by omega)
        have br := QM.wr_bd (x := X) (n := M) (d := d) (by omega)
        rw [← hQ] at bq
        rw [← hR] at br
        obtain ⟨b1, b2⟩ := bq
        obtain ⟨b3, b4⟩ := br
        have CX := Lib.hid (fun W => abs_any x W (by omega))
        have CM := Lib.hid (fun W => abs_any n W (by omega))
        have CW := Lib.hid (fun W => whole_any X M d W (by omega) (by omega) (by omega) (by omega) (by omega) (by omega))
        rw [← hX] at CX
        rw [← hM] at CM
        rw [← hQ, ← hR] at CW
        have HV : QM.rr x n d = if decide (x < 0) = decide (n < 0) ∨ x = 0 ∨ n = 0 then (if d ≤ 2 * R then Q + 1 else Q) else -(if d < 2 * R then Q + 1 else Q) := by
          unfold QM.rr; rw [← hX, ← hM, ← hQ, ← hR]
        have H1 := Lib.hid h1
        have H2 := Lib.hid h2
        have H3 := Lib.hid h3
        clear h1 h2 h3 hX hM hQ hR
        have fin : ∀ v : Int, v = QM.rr x n d → ∀ W, Calls Try.prog 78 #[.int .i64 v] W fun e w' => e = .returned (.tuple #[.int .i64 (QM.lim (QM.rr x n d)).1, .int .i64 (QM.lim (QM.rr x n d)).2]) ∧ W = w' := by
          intro v hv W
          rw [← hv]
          exact number_any v W
        generalize QM.rr x n d = V at *
        have FIN := Lib.hid fin
        clear fin
        cases hs : decide (decide (x < 0) = decide (n < 0))
        · have hs' : ¬ decide (x < 0) = decide (n < 0) := by simpa using hs
          cases hx0 : (x == 0)
          · cases hn0 : (n == 0)
            · have g1 : ¬ x = 0 := by simpa using hx0
              have g2 : ¬ n = 0 := by simpa using hn0
              rw [if_neg (by intro k; rcases k with k | k | k; exact hs' k; exact g1 k; exact g2 k)] at HV
              cases hr : decide (d < 2 * R)
              all_goals simp only [decide_eq_true_eq, decide_eq_false_iff_not] at hr
              all_goals (first | rw [if_pos hr] at HV | rw [if_neg hr] at HV)
              all_goals have HVV := Lib.hid HV
              all_goals clear HV g1 g2
              all_goals cases sx : decide (x < 0)
              all_goals cases sn : decide (n < 0)
              all_goals (first | (exfalso; rw [sx, sn] at hs'; exact hs' rfl) | skip)
              all_goals clear hs hs'
              all_goals go_enter Try.func18, Try.ntmps18
              all_goals go_wp2_with (first | (go_at_call 76; refine (Is_eq _ _ _ (by first | exact H1.out | exact H2.out)).mono ?_; rintro e w' ⟨rfl, rfl⟩) | (go_at_call 77; refine (den_eq _ _ _ H3.out).mono ?_; rintro e w' ⟨rfl, rfl⟩) | (go_at_call 84; first | (refine (CX.out _).mono ?_; rintro e w' ⟨rfl, rfl⟩; clear CX) | (refine (CM.out _).mono ?_; rintro e w' ⟨rfl, rfl⟩)) | (go_at_call 83; refine (CW.out _).mono ?_; rintro e w' ⟨rfl, rfl⟩) | (go_at_call 78; refine (FIN.out _ HVV.out.symm _).mono ?_; rintro e w' ⟨rfl, rfl⟩))
              all_goals go_ret2
              all_goals exact ⟨rfl, rfl⟩
            · have g2 : n = 0 := by simpa using hn0
              rw [if_pos (Or.inr (Or.inr g2))] at HV
              cases hr : decide (d ≤ 2 * R)
              all_goals simp only [decide_eq_true_eq, decide_eq_false_iff_not] at hr
              all_goals (first | rw [if_pos hr] at HV | rw [if_neg hr] at HV)
              all_goals have HVV := Lib.hid HV
              all_goals clear HV g2
              all_goals cases sx : decide (x < 0)
              all_goals cases sn : decide (n < 0)
              all_goals (first | (exfalso; rw [sx, sn] at hs'; exact hs' rfl) | skip)
              all_goals clear hs hs'
              all_goals go_enter Try.func18, Try.ntmps18
              all_goals go_wp2_with (first | (go_at_call 76; refine (Is_eq _ _ _ (by first | exact H1.out | exact H2.out)).mono ?_; rintro e w' ⟨rfl, rfl⟩) | (go_at_call 77; refine (den_eq _ _ _ H3.out).mono ?_; rintro e w' ⟨rfl, rfl⟩) | (go_at_call 84; first | (refine (CX.out _).mono ?_; rintro e w' ⟨rfl, rfl⟩; clear CX) | (refine (CM.out _).mono ?_; rintro e w' ⟨rfl, rfl⟩)) | (go_at_call 83; refine (CW.out _).mono ?_; rintro e w' ⟨rfl, rfl⟩) | (go_at_call 78; refine (FIN.out _ HVV.out.symm _).mono ?_; rintro e w' ⟨rfl, rfl⟩))
              all_goals go_ret2
              all_goals exact ⟨rfl, rfl⟩
          · have g1 : x = 0 := by simpa using hx0
            rw [if_pos (Or.inr (Or.inl g1))] at HV
            cases hr : decide (d ≤ 2 * R)
            all_goals simp only [decide_eq_true_eq, decide_eq_false_iff_not] at hr
            all_goals (first | rw [if_pos hr] at HV | rw [if_neg hr] at HV)
            all_goals have HVV := Lib.hid HV
            all_goals clear HV g1
            all_goals cases sx : decide (x < 0)
            all_goals cases sn : decide (n < 0)
            all_goals (first | (exfalso; rw [sx, sn] at hs'; exact hs' rfl) | skip)
            all_goals clear hs hs'
            all_goals go_enter Try.func18, Try.ntmps18
            all_goals go_wp2_with (first | (go_at_call 76; refine (Is_eq _ _ _ (by first | exact H1.out | exact H2.out)).mono ?_; rintro e w' ⟨rfl, rfl⟩) | (go_at_call 77; refine (den_eq _ _ _ H3.out).mono ?_; rintro e w' ⟨rfl, rfl⟩) | (go_at_call 84; first | (refine (CX.out _).mono ?_; rintro e w' ⟨rfl, rfl⟩; clear CX) | (refine (CM.out _).mono ?_; rintro e w' ⟨rfl, rfl⟩)) | (go_at_call 83; refine (CW.out _).mono ?_; rintro e w' ⟨rfl, rfl⟩) | (go_at_call 78; refine (FIN.out _ HVV.out.symm _).mono ?_; rintro e w' ⟨rfl, rfl⟩))
            all_goals go_ret2
            all_goals exact ⟨rfl, rfl⟩
        · have hs' : decide (x < 0) = decide (n < 0) := by simpa using hs
          rw [if_pos (Or.inl hs')] at HV
          cases hr : decide (d ≤ 2 * R)
          all_goals simp only [decide_eq_true_eq, decide_eq_false_iff_not] at hr
          all_goals (first | rw [if_pos hr] at HV | rw [if_neg hr] at HV)
          all_goals have HVV := Lib.hid HV
          all_goals clear HV
          all_goals cases sx : decide (x < 0)
          all_goals cases sn : decide (n < 0)
          all_goals (first | (exfalso; rw [sx, sn] at hs'; exact absurd hs' (by decide)) | skip)
          all_goals clear hs hs'
          all_goals go_enter Try.func18, Try.ntmps18
          all_goals go_wp2_with (first | (go_at_call 76; refine (Is_eq _ _ _ (by first | exact H1.out | exact H2.out)).mono ?_; rintro e w' ⟨rfl, rfl⟩) | (go_at_call 77; refine (den_eq _ _ _ H3.out).mono ?_; rintro e w' ⟨rfl, rfl⟩) | (go_at_call 84; first | (refine (CX.out _).mono ?_; rintro e w' ⟨rfl, rfl⟩; clear CX) | (refine (CM.out _).mono ?_; rintro e w' ⟨rfl, rfl⟩)) | (go_at_call 83; refine (CW.out _).mono ?_; rintro e w' ⟨rfl, rfl⟩) | (go_at_call 78; refine (FIN.out _ HVV.out.symm _).mono ?_; rintro e w' ⟨rfl, rfl⟩))
          all_goals go_ret2
          all_goals exact ⟨rfl, rfl⟩
end Go.Proofs.Ytegllhgpnadofaa
