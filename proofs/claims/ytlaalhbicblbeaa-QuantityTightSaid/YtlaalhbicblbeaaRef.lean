/- The contracts of the reference's roundings, and of both Points. -/
import Derived.Test.YtlaalhbicblbeaaWhl
import Derived.Test.YtlaalhbicblbeaaRm
namespace Go.Proofs.Ytlaalhbicblbeaa
open Go.RowKit
set_option maxHeartbeats 400000 in
theorem Is_eq (x : Int) (b : Bool) (w : World) (h : QM.isQ x = b) : Calls Try.prog 76 #[.int .i64 x] w fun e w' => e = .returned (.bool b) ∧ w = w' := by
  have hv : QM.isQ x = decide (-1099511627776 ≤ x ∧ x ≤ 1099511627776) := rfl
  rw [hv] at h
  clear hv
  cases b
  · have h' : ¬ (-1099511627776 ≤ x ∧ x ≤ 1099511627776) := by simpa using h
    clear h
    by_cases h1 : -1099511627776 ≤ x
    · have h2 : 1099511627776 < x := by omega
      have h3 : decide (x ≤ 1099511627776) = false := by simp; omega
      clear h'
      go_enter Try.func76, Try.ntmps76
      go_wp2
      go_ret
      exact ⟨rfl, rfl⟩
    · have h2 : x < -1099511627776 := by omega
      clear h'
      go_enter Try.func76, Try.ntmps76
      go_wp2
      go_ret
      exact ⟨rfl, rfl⟩
  · have h' : -1099511627776 ≤ x ∧ x ≤ 1099511627776 := by simpa using h
    clear h
    obtain ⟨h1, h2⟩ := h'
    go_enter Try.func76, Try.ntmps76
    go_wp2
    go_ret
    exact ⟨rfl, rfl⟩
set_option maxHeartbeats 400000 in
theorem den_eq (x : Int) (b : Bool) (w : World) (h : QM.isD x = b) : Calls Try.prog 77 #[.int .i64 x] w fun e w' => e = .returned (.bool b) ∧ w = w' := by
  have hv : QM.isD x = decide (1 ≤ x ∧ x ≤ 1099511627776) := rfl
  rw [hv] at h
  clear hv
  cases b
  · have h' : ¬ (1 ≤ x ∧ x ≤ 1099511627776) := by simpa using h
    clear h
    by_cases h1 : 1 ≤ x
    · have h2 : 1099511627776 < x := by omega
      have h3 : decide (x ≤ 1099511627776) = false := by simp; omega
      clear h'
      go_enter Try.func77, Try.ntmps77
      go_wp2
      go_ret
      exact ⟨rfl, rfl⟩
    · have h2 : x < 1 := by omega
      clear h'
      go_enter Try.func77, Try.ntmps77
      go_wp2
      go_ret
      exact ⟨rfl, rfl⟩
  · have h' : 1 ≤ x ∧ x ≤ 1099511627776 := by simpa using h
    clear h
    obtain ⟨h1, h2⟩ := h'
    go_enter Try.func77, Try.ntmps77
    go_wp2
    go_ret
    exact ⟨rfl, rfl⟩
set_option maxHeartbeats 400000 in
theorem number_any (x : Int) (w : World) : Calls Try.prog 78 #[.int .i64 x] w fun e w' => e = .returned (.tuple #[.int .i64 (QM.lim x).1, .int .i64 (QM.lim x).2]) ∧ w = w' := by
  unfold QM.lim
  cases h1 : QM.isQ x
  all_goals have H1 := Lib.hid h1
  all_goals have H2 := Lib.hid h1
  all_goals clear h1
  all_goals simp only [Bool.false_eq_true, if_true, if_false]
  all_goals go_enter Try.func78, Try.ntmps78
  all_goals go_wp2_with (go_at_call 76; refine (Is_eq _ _ _ (by first | exact H1.out | exact H2.out)).mono ?_; rintro e w' ⟨rfl, rfl⟩)
  all_goals go_ret2
  all_goals exact ⟨rfl, rfl⟩
set_option maxHeartbeats 400000 in
theorem Up_any (x n d : Int) (w : World) (hx : -9000000000000 ≤ x) (hx2 : x ≤ 9000000000000) (hn : -9000000000000 ≤ n) (hn2 : n ≤ 9000000000000) (hd : -9000000000000 ≤ d) (hd2 : d ≤ 9000000000000) (hd0 : d ≠ 0) :
    Calls Try.prog 81 #[.int .i64 x, .int .i64 n, .int .i64 d] w fun e w' => e = .returned (.int .i64 (QM.up x n d)) ∧ w = w' := by
  have hb := QM.dn_bd (x := -x) (n := n) hd0
  unfold QM.up
  have K := Lib.hid (fun W => Down_any (-x) n d W (by omega) (by omega) hn hn2 hd hd2 hd0)
  generalize QM.dn (-x) n d = v at *
  clear hd0
  go_enter Try.func81, Try.ntmps81
  go_wp2_with (go_at_call 79; refine (K.out _).mono ?_; rintro e w' ⟨rfl, rfl⟩)
  go_ret
  exact ⟨rfl, rfl⟩
set_option maxRecDepth 100000 in
set_option maxHeartbeats 1000000 in
theorem rFloor_any (x n d : Int) (w : World) : Calls Try.prog 14 #[.int .i64 x, .int .i64 n, .int .i64 d] w fun e w' => e = .returned (.tuple #[.int .i64 (QM.rnd QM.dn x n d).1, .int .i64 (QM.rnd QM.dn x n d).2]) ∧ w = w' := by
  cases h1 : QM.isQ x
  · rw [QM.rnd_bad (fun h => by rw [h1] at h; exact absurd h.1 (by simp))]
    have H1 := Lib.hid h1
    have H2 := Lib.hid h1
    clear h1
    go_enter Try.func14, Try.ntmps14
    go_wp2_with (go_at_call 76; refine (Is_eq _ _ _ (by first | exact H1.out | exact H2.out)).mono ?_; rintro e w' ⟨rfl, rfl⟩)
    go_ret2
    exact ⟨rfl, rfl⟩
  · cases h2 : QM.isQ n
    · rw [QM.rnd_bad (fun h => by rw [h2] at h; exact absurd h.2.1 (by simp))]
      have H1 := Lib.hid h1
      have H2 := Lib.hid h2
      clear h1 h2
      go_enter Try.func14, Try.ntmps14
      go_wp2_with (go_at_call 76; refine (Is_eq _ _ _ (by first | exact H1.out | exact H2.out)).mono ?_; rintro e w' ⟨rfl, rfl⟩)
      go_ret2
      exact ⟨rfl, rfl⟩
    · cases h3 : QM.isD d
      · rw [QM.rnd_bad (fun h => by rw [h3] at h; exact absurd h.2.2 (by simp))]
        have H1 := Lib.hid h1
        have H2 := Lib.hid h2
        have H3 := Lib.hid h3
        clear h1 h2 h3
        go_enter Try.func14, Try.ntmps14
        go_wp2_with (first | (go_at_call 76; refine (Is_eq _ _ _ (by first | exact H1.out | exact H2.out)).mono ?_; rintro e w' ⟨rfl, rfl⟩) | (go_at_call 77; refine (den_eq _ _ _ H3.out).mono ?_; rintro e w' ⟨rfl, rfl⟩))
        go_ret2
        exact ⟨rfl, rfl⟩
      · rw [QM.rnd_good h1 h2 h3]
        obtain ⟨a1, a2⟩ := QM.isQ_bd h1
        obtain ⟨a3, a4⟩ := QM.isQ_bd h2
        obtain ⟨a5, a6⟩ := QM.isD_bd h3
        have K := Lib.hid (fun W => Down_any x n d W (by omega) (by omega) (by omega) (by omega) (by omega) (by omega) (by omega))
        have H1 := Lib.hid h1
        have H2 := Lib.hid h2
        have H3 := Lib.hid h3
        clear h1 h2 h3
        generalize QM.dn x n d = v at *
        go_enter Try.func14, Try.ntmps14
        go_wp2_with (first | (go_at_call 76; refine (Is_eq _ _ _ (by first | exact H1.out | exact H2.out)).mono ?_; rintro e w' ⟨rfl, rfl⟩) | (go_at_call 77; refine (den_eq _ _ _ H3.out).mono ?_; rintro e w' ⟨rfl, rfl⟩) | (go_at_call 79; refine (K.out _).mono ?_; rintro e w' ⟨rfl, rfl⟩) | (go_at_call 78; refine (number_any v _).mono ?_; rintro e w' ⟨rfl, rfl⟩))
        go_ret2
        exact ⟨rfl, rfl⟩
set_option maxRecDepth 100000 in
set_option maxHeartbeats 1000000 in
theorem rCeil_any (x n d : Int) (w : World) : Calls Try.prog 16 #[.int .i64 x, .int .i64 n, .int .i64 d] w fun e w' => e = .returned (.tuple #[.int .i64 (QM.rnd QM.up x n d).1, .int .i64 (QM.rnd QM.up x n d).2]) ∧ w = w' := by
  cases h1 : QM.isQ x
  · rw [QM.rnd_bad (fun h => by rw [h1] at h; exact absurd h.1 (by simp))]
    have H1 := Lib.hid h1
    have H2 := Lib.hid h1
    clear h1
    go_enter Try.func16, Try.ntmps16
    go_wp2_with (go_at_call 76; refine (Is_eq _ _ _ (by first | exact H1.out | exact H2.out)).mono ?_; rintro e w' ⟨rfl, rfl⟩)
    go_ret2
    exact ⟨rfl, rfl⟩
  · cases h2 : QM.isQ n
    · rw [QM.rnd_bad (fun h => by rw [h2] at h; exact absurd h.2.1 (by simp))]
      have H1 := Lib.hid h1
      have H2 := Lib.hid h2
      clear h1 h2
      go_enter Try.func16, Try.ntmps16
      go_wp2_with (go_at_call 76; refine (Is_eq _ _ _ (by first | exact H1.out | exact H2.out)).mono ?_; rintro e w' ⟨rfl, rfl⟩)
      go_ret2
      exact ⟨rfl, rfl⟩
    · cases h3 : QM.isD d
      · rw [QM.rnd_bad (fun h => by rw [h3] at h; exact absurd h.2.2 (by simp))]
        have H1 := Lib.hid h1
        have H2 := Lib.hid h2
        have H3 := Lib.hid h3
        clear h1 h2 h3
        go_enter Try.func16, Try.ntmps16
        go_wp2_with (first | (go_at_call 76; refine (Is_eq _ _ _ (by first | exact H1.out | exact H2.out)).mono ?_; rintro e w' ⟨rfl, rfl⟩) | (go_at_call 77; refine (den_eq _ _ _ H3.out).mono ?_; rintro e w' ⟨rfl, rfl⟩))
        go_ret2
        exact ⟨rfl, rfl⟩
      · rw [QM.rnd_good h1 h2 h3]
        obtain ⟨a1, a2⟩ := QM.isQ_bd h1
        obtain ⟨a3, a4⟩ := QM.isQ_bd h2
        obtain ⟨a5, a6⟩ := QM.isD_bd h3
        have K := Lib.hid (fun W => Up_any x n d W (by omega) (by omega) (by omega) (by omega) (by omega) (by omega) (by omega))
        have H1 := Lib.hid h1
        have H2 := Lib.hid h2
        have H3 := Lib.hid h3
        clear h1 h2 h3
        generalize QM.up x n d = v at *
        go_enter Try.func16, Try.ntmps16
        go_wp2_with (first | (go_at_call 76; refine (Is_eq _ _ _ (by first | exact H1.out | exact H2.out)).mono ?_; rintro e w' ⟨rfl, rfl⟩) | (go_at_call 77; refine (den_eq _ _ _ H3.out).mono ?_; rintro e w' ⟨rfl, rfl⟩) | (go_at_call 81; refine (K.out _).mono ?_; rintro e w' ⟨rfl, rfl⟩) | (go_at_call 78; refine (number_any v _).mono ?_; rintro e w' ⟨rfl, rfl⟩))
        go_ret2
        exact ⟨rfl, rfl⟩
set_option maxHeartbeats 1000000 in
theorem Point_any (x : Int) (w : World) : Calls Try.prog 19 #[.int .i64 x] w fun e w' => e = .returned (.tuple #[.agg #[.int .i64 (if QM.isQ x = true then x else 0), .int .i64 (if QM.isQ x = true then x else 0)], .int .i64 (if QM.isQ x = true then 0 else 2)]) ∧ Below w.heap.size w w' := by
  cases h1 : QM.isQ x
  all_goals have H1 := Lib.hid h1
  all_goals have H2 := Lib.hid h1
  all_goals clear h1
  all_goals simp only [Bool.false_eq_true, if_true, if_false]
  all_goals go_enter Try.func19, Try.ntmps19
  all_goals go_wp2_with (go_at_call 85; refine (isQ_eq _ _ _ (by first | exact H1.out | exact H2.out)).mono ?_; rintro e w' ⟨rfl, rfl⟩)
  all_goals (first | exact bodyPost_ret (v := .tuple #[.agg #[.int .i64 x, .int .i64 x], .int .i64 0]) (by simp [results, Try.results19, go_sem]) rfl ⟨rfl, by repeat (first | exact Below.refl _ _ | assumption | refine Below.setCell ?_ (by first | (simp; done) | omega | (simp; omega)) _ | refine Below.alloc ?_ (by first | (simp; done) | omega | (simp; omega)) _)⟩ | exact bodyPost_ret (v := .tuple #[.agg #[.int .i64 0, .int .i64 0], .int .i64 2]) (by simp [results, Try.results19, go_sem]) rfl ⟨rfl, by repeat (first | exact Below.refl _ _ | assumption | refine Below.setCell ?_ (by first | (simp; done) | omega | (simp; omega)) _ | refine Below.alloc ?_ (by first | (simp; done) | omega | (simp; omega)) _)⟩)
set_option maxHeartbeats 1000000 in
theorem rPoint_any (x : Int) (w : World) : Calls Try.prog 20 #[.int .i64 x] w fun e w' => e = .returned (.tuple #[.agg #[.int .i64 (if QM.isQ x = true then x else 0), .int .i64 (if QM.isQ x = true then x else 0)], .int .i64 (if QM.isQ x = true then 0 else 2)]) ∧ Below w.heap.size w w' := by
  cases h1 : QM.isQ x
  all_goals have H1 := Lib.hid h1
  all_goals have H2 := Lib.hid h1
  all_goals clear h1
  all_goals simp only [Bool.false_eq_true, if_true, if_false]
  all_goals go_enter Try.func20, Try.ntmps20
  all_goals go_wp2_with (go_at_call 76; refine (Is_eq _ _ _ (by first | exact H1.out | exact H2.out)).mono ?_; rintro e w' ⟨rfl, rfl⟩)
  all_goals (first | exact bodyPost_ret (v := .tuple #[.agg #[.int .i64 x, .int .i64 x], .int .i64 0]) (by simp [results, Try.results20, go_sem]) rfl ⟨rfl, by repeat (first | exact Below.refl _ _ | assumption | refine Below.setCell ?_ (by first | (simp; done) | omega | (simp; omega)) _ | refine Below.alloc ?_ (by first | (simp; done) | omega | (simp; omega)) _)⟩ | exact bodyPost_ret (v := .tuple #[.agg #[.int .i64 0, .int .i64 0], .int .i64 2]) (by simp [results, Try.results20, go_sem]) rfl ⟨rfl, by repeat (first | exact Below.refl _ _ | assumption | refine Below.setCell ?_ (by first | (simp; done) | omega | (simp; omega)) _ | refine Below.alloc ?_ (by first | (simp; done) | omega | (simp; omega)) _)⟩)
end Go.Proofs.Ytlaalhbicblbeaa
