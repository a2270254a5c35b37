/- The contracts of the reference's functions of spans, but for those that multiply. -/
import Derived.Test.YtlaalhbicblbeaaRef
import Derived.Test.YtlaalhbicblbeaaOp3
namespace Go.Proofs.Ytlaalhbicblbeaa
open Go.RowKit
set_option maxRecDepth 100000 in
set_option maxHeartbeats 1000000 in
/-- 'Valid', its world written out -/
theorem Valid_x (lo hi : Int) (b : Bool) (h : QM.vld lo hi = b) (w : World) : Calls Try.prog 102 #[.agg #[.int .i64 lo, .int .i64 hi]] w fun e w' => e = .returned (.bool b) ∧ w' = w.alloc (.cells #[.int .i64 lo, .int .i64 hi] 26) := by
  have hv : QM.vld lo hi = (QM.isQ lo && QM.isQ hi && decide (lo ≤ hi)) := rfl
  rw [← h, hv]
  clear h hv
  cases h1 : QM.isQ lo
  all_goals cases h2 : QM.isQ hi
  all_goals cases h3 : decide (lo ≤ hi)
  all_goals have H1 := Lib.hid h1
  all_goals have H2 := Lib.hid h2
  all_goals clear h1 h2
  all_goals simp only [Bool.and_true, Bool.and_false]
  all_goals go_enter Try.func102, Try.ntmps102
  all_goals go_wp2_with (go_at_call 76; refine (Is_eq _ _ _ (by first | exact H1.out | exact H2.out)).mono ?_; rintro e w' ⟨rfl, rfl⟩)
  all_goals go_ret
  all_goals exact ⟨rfl, rfl⟩
set_option maxRecDepth 100000 in
set_option maxHeartbeats 1000000 in
/-- the reference's 'span', its world written out -/
theorem rspan_x (lo hi : Int) (w : World) : Calls Try.prog 104 #[.int .i64 lo, .int .i64 hi] w fun e w' => e = .returned (.tuple #[.agg #[.int .i64 (QM.sp lo hi).1, .int .i64 (QM.sp lo hi).2.1], .int .i64 (QM.sp lo hi).2.2]) ∧ w' = w.alloc (.cells #[.int .i64 (QM.sp lo hi).1, .int .i64 (QM.sp lo hi).2.1] 26) := by
  unfold QM.sp
  cases h1 : QM.isQ lo
  all_goals cases h2 : QM.isQ hi
  all_goals have H1 := Lib.hid h1
  all_goals have H2 := Lib.hid h2
  all_goals clear h1 h2
  all_goals simp only [Bool.false_eq_true, and_true, and_false, and_self, if_true, if_false]
  all_goals go_enter Try.func104, Try.ntmps104
  all_goals go_wp2_with (go_at_call 76; refine (Is_eq _ _ _ (by first | exact H1.out | exact H2.out)).mono ?_; rintro e w' ⟨rfl, rfl⟩)
  all_goals (first | exact bodyPost_ret (v := .tuple #[.agg #[.int .i64 lo, .int .i64 hi], .int .i64 0]) (by simp [results, Try.results104, go_sem]) rfl ⟨rfl, rfl⟩ | exact bodyPost_ret (v := .tuple #[.agg #[.int .i64 0, .int .i64 0], .int .i64 4]) (by simp [results, Try.results104, go_sem]) rfl ⟨rfl, rfl⟩)
theorem rspan_e (lo hi : Int) (P : Int × Int × Int) (h : QM.sp lo hi = P) (w : World) : Calls Try.prog 104 #[.int .i64 lo, .int .i64 hi] w fun e w' => e = .returned (.tuple #[.agg #[.int .i64 P.1, .int .i64 P.2.1], .int .i64 P.2.2]) ∧ w' = w.alloc (.cells #[.int .i64 P.1, .int .i64 P.2.1] 26) := by
  rw [← h]; exact rspan_x lo hi w
set_option maxRecDepth 100000 in
set_option maxHeartbeats 1000000 in
/-- the reference's 'Add' -/
theorem rAdd_any (al ah bl bh : Int) (w : World) : Calls Try.prog 26 #[.agg #[.int .i64 al, .int .i64 ah], .agg #[.int .i64 bl, .int .i64 bh]] w fun e w' => e = .returned (.tuple #[.agg #[.int .i64 (addP al ah bl bh).1, .int .i64 (addP al ah bl bh).2.1], .int .i64 (addP al ah bl bh).2.2]) ∧ Below w.heap.size w w' := by
  cases v1 : QM.vld al ah
  · have hP : addP al ah bl bh = (0, 0, 2) := if_neg (by rw [allV2, v1]; simp)
    rw [hP]
    have V1 := Lib.hid v1
    have V2 := Lib.hid v1
    clear v1 hP
    go_enter Try.func26, Try.ntmps26
    go_wp2_with (go_at_call 102; refine (Valid_x _ _ _ (by first | exact V1.out | exact V2.out) _).mono ?_; rintro e w' ⟨rfl, rfl⟩)
    exact bodyPost_ret (v := .tuple #[.agg #[.int .i64 (0), .int .i64 (0)], .int .i64 (2)]) (by simp [results, Try.results26, go_sem]) rfl ⟨rfl, by repeat (first | exact Below.refl _ _ | refine Below.setCell ?_ (by first | (simp; done) | omega | (simp; omega)) _ | refine Below.alloc ?_ (by first | (simp; done) | omega | (simp; omega)) _)⟩
  · cases v2 : QM.vld bl bh
    · have hP : addP al ah bl bh = (0, 0, 2) := if_neg (by rw [allV2, v2]; simp)
      rw [hP]
      have V1 := Lib.hid v1
      have V2 := Lib.hid v2
      clear v1 v2 hP
      go_enter Try.func26, Try.ntmps26
      go_wp2_with (go_at_call 102; refine (Valid_x _ _ _ (by first | exact V1.out | exact V2.out) _).mono ?_; rintro e w' ⟨rfl, rfl⟩)
      exact bodyPost_ret (v := .tuple #[.agg #[.int .i64 (0), .int .i64 (0)], .int .i64 (2)]) (by simp [results, Try.results26, go_sem]) rfl ⟨rfl, by repeat (first | exact Below.refl _ _ | refine Below.setCell ?_ (by first | (simp; done) | omega | (simp; omega)) _ | refine Below.alloc ?_ (by first | (simp; done) | omega | (simp; omega)) _)⟩
    · have hv : allV [(al, ah), (bl, bh)] = true := by rw [allV2, v1, v2]; rfl
      obtain ⟨⟨x1, x2, x3⟩, ⟨x4, x5, x6⟩⟩ := allV2_bd hv
      have V1 := Lib.hid v1
      have V2 := Lib.hid v2
      obtain ⟨P, hPP⟩ : ∃ P, QM.sp (al + bl) (ah + bh) = P := ⟨_, rfl⟩
      have hP : addP al ah bl bh = P := by rw [← hPP]; exact if_pos hv
      have KL := Lib.hid (fun W => rspan_e (al + bl) (ah + bh) P hPP W)
      rw [hP]
      clear hv v1 v2 hP hPP
      go_enter Try.func26, Try.ntmps26
      go_wp2_with (first | (go_at_call 102; refine (Valid_x _ _ _ (by first | exact V1.out | exact V2.out) _).mono ?_; rintro e w' ⟨rfl, rfl⟩) | (go_at_call 104; refine (KL.out _).mono ?_; rintro e w' ⟨rfl, rfl⟩))
      exact bodyPost_ret (v := .tuple #[.agg #[.int .i64 (P.1), .int .i64 (P.2.1)], .int .i64 (P.2.2)]) (by simp [results, Try.results26, go_sem]) rfl ⟨rfl, by repeat (first | exact Below.refl _ _ | refine Below.setCell ?_ (by first | (simp; done) | omega | (simp; omega)) _ | refine Below.alloc ?_ (by first | (simp; done) | omega | (simp; omega)) _)⟩
set_option maxRecDepth 100000 in
set_option maxHeartbeats 1000000 in
/-- the reference's 'Sub' -/
theorem rSub_any (al ah bl bh : Int) (w : World) : Calls Try.prog 28 #[.agg #[.int .i64 al, .int .i64 ah], .agg #[.int .i64 bl, .int .i64 bh]] w fun e w' => e = .returned (.tuple #[.agg #[.int .i64 (subP al ah bl bh).1, .int .i64 (subP al ah bl bh).2.1], .int .i64 (subP al ah bl bh).2.2]) ∧ Below w.heap.size w w' := by
  cases v1 : QM.vld al ah
  · have hP : subP al ah bl bh = (0, 0, 2) := if_neg (by rw [allV2, v1]; simp)
    rw [hP]
    have V1 := Lib.hid v1
    have V2 := Lib.hid v1
    clear v1 hP
    go_enter Try.func28, Try.ntmps28
    go_wp2_with (go_at_call 102; refine (Valid_x _ _ _ (by first | exact V1.out | exact V2.out) _).mono ?_; rintro e w' ⟨rfl, rfl⟩)
    exact bodyPost_ret (v := .tuple #[.agg #[.int .i64 (0), .int .i64 (0)], .int .i64 (2)]) (by simp [results, Try.results28, go_sem]) rfl ⟨rfl, by repeat (first | exact Below.refl _ _ | refine Below.setCell ?_ (by first | (simp; done) | omega | (simp; omega)) _ | refine Below.alloc ?_ (by first | (simp; done) | omega | (simp; omega)) _)⟩
  · cases v2 : QM.vld bl bh
    · have hP : subP al ah bl bh = (0, 0, 2) := if_neg (by rw [allV2, v2]; simp)
      rw [hP]
      have V1 := Lib.hid v1
      have V2 := Lib.hid v2
      clear v1 v2 hP
      go_enter Try.func28, Try.ntmps28
      go_wp2_with (go_at_call 102; refine (Valid_x _ _ _ (by first | exact V1.out | exact V2.out) _).mono ?_; rintro e w' ⟨rfl, rfl⟩)
      exact bodyPost_ret (v := .tuple #[.agg #[.int .i64 (0), .int .i64 (0)], .int .i64 (2)]) (by simp [results, Try.results28, go_sem]) rfl ⟨rfl, by repeat (first | exact Below.refl _ _ | refine Below.setCell ?_ (by first | (simp; done) | omega | (simp; omega)) _ | refine Below.alloc ?_ (by first | (simp; done) | omega | (simp; omega)) _)⟩
    · have hv : allV [(al, ah), (bl, bh)] = true := by rw [allV2, v1, v2]; rfl
      obtain ⟨⟨x1, x2, x3⟩, ⟨x4, x5, x6⟩⟩ := allV2_bd hv
      have V1 := Lib.hid v1
      have V2 := Lib.hid v2
      obtain ⟨P, hPP⟩ : ∃ P, QM.sp (al - bh) (ah - bl) = P := ⟨_, rfl⟩
      have hP : subP al ah bl bh = P := by rw [← hPP]; exact if_pos hv
      have KL := Lib.hid (fun W => rspan_e (al - bh) (ah - bl) P hPP W)
      rw [hP]
      clear hv v1 v2 hP hPP
      go_enter Try.func28, Try.ntmps28
      go_wp2_with (first | (go_at_call 102; refine (Valid_x _ _ _ (by first | exact V1.out | exact V2.out) _).mono ?_; rintro e w' ⟨rfl, rfl⟩) | (go_at_call 104; refine (KL.out _).mono ?_; rintro e w' ⟨rfl, rfl⟩))
      exact bodyPost_ret (v := .tuple #[.agg #[.int .i64 (P.1), .int .i64 (P.2.1)], .int .i64 (P.2.2)]) (by simp [results, Try.results28, go_sem]) rfl ⟨rfl, by repeat (first | exact Below.refl _ _ | refine Below.setCell ?_ (by first | (simp; done) | omega | (simp; omega)) _ | refine Below.alloc ?_ (by first | (simp; done) | omega | (simp; omega)) _)⟩
set_option maxRecDepth 100000 in
set_option maxHeartbeats 1000000 in
/-- the reference's 'Hull' -/
theorem rHull_any (al ah bl bh : Int) (w : World) : Calls Try.prog 36 #[.agg #[.int .i64 al, .int .i64 ah], .agg #[.int .i64 bl, .int .i64 bh]] w fun e w' => e = .returned (.tuple #[.agg #[.int .i64 (hullP al ah bl bh).1, .int .i64 (hullP al ah bl bh).2.1], .int .i64 (hullP al ah bl bh).2.2]) ∧ Below w.heap.size w w' := by
  cases v1 : QM.vld al ah
  · have hP : hullP al ah bl bh = (0, 0, 2) := if_neg (by rw [allV2, v1]; simp)
    rw [hP]
    have V1 := Lib.hid v1
    have V2 := Lib.hid v1
    clear v1 hP
    go_enter Try.func36, Try.ntmps36
    go_wp2_with (go_at_call 102; refine (Valid_x _ _ _ (by first | exact V1.out | exact V2.out) _).mono ?_; rintro e w' ⟨rfl, rfl⟩)
    exact bodyPost_ret (v := .tuple #[.agg #[.int .i64 (0), .int .i64 (0)], .int .i64 (2)]) (by simp [results, Try.results36, go_sem]) rfl ⟨rfl, by repeat (first | exact Below.refl _ _ | refine Below.setCell ?_ (by first | (simp; done) | omega | (simp; omega)) _ | refine Below.alloc ?_ (by first | (simp; done) | omega | (simp; omega)) _)⟩
  · cases v2 : QM.vld bl bh
    · have hP : hullP al ah bl bh = (0, 0, 2) := if_neg (by rw [allV2, v2]; simp)
      rw [hP]
      have V1 := Lib.hid v1
      have V2 := Lib.hid v2
      clear v1 v2 hP
      go_enter Try.func36, Try.ntmps36
      go_wp2_with (go_at_call 102; refine (Valid_x _ _ _ (by first | exact V1.out | exact V2.out) _).mono ?_; rintro e w' ⟨rfl, rfl⟩)
      exact bodyPost_ret (v := .tuple #[.agg #[.int .i64 (0), .int .i64 (0)], .int .i64 (2)]) (by simp [results, Try.results36, go_sem]) rfl ⟨rfl, by repeat (first | exact Below.refl _ _ | refine Below.setCell ?_ (by first | (simp; done) | omega | (simp; omega)) _ | refine Below.alloc ?_ (by first | (simp; done) | omega | (simp; omega)) _)⟩
    · have hv : allV [(al, ah), (bl, bh)] = true := by rw [allV2, v1, v2]; rfl
      obtain ⟨⟨x1, x2, x3⟩, ⟨x4, x5, x6⟩⟩ := allV2_bd hv
      have V1 := Lib.hid v1
      have V2 := Lib.hid v2
      have hP : hullP al ah bl bh = (min al bl, max ah bh, 0) := if_pos hv
      rw [hP]
      clear hv v1 v2 hP
      go_enter Try.func36, Try.ntmps36
      go_wp2_with (go_at_call 102; refine (Valid_x _ _ _ (by first | exact V1.out | exact V2.out) _).mono ?_; rintro e w' ⟨rfl, rfl⟩)
      exact bodyPost_ret (v := .tuple #[.agg #[.int .i64 (min al bl), .int .i64 (max ah bh)], .int .i64 (0)]) (by simp [results, Try.results36, go_sem]) rfl ⟨rfl, by repeat (first | exact Below.refl _ _ | refine Below.setCell ?_ (by first | (simp; done) | omega | (simp; omega)) _ | refine Below.alloc ?_ (by first | (simp; done) | omega | (simp; omega)) _)⟩
set_option maxRecDepth 100000 in
set_option maxHeartbeats 1000000 in
/-- the reference's 'Meet' -/
theorem rMeet_any (al ah bl bh : Int) (w : World) : Calls Try.prog 34 #[.agg #[.int .i64 al, .int .i64 ah], .agg #[.int .i64 bl, .int .i64 bh]] w fun e w' => e = .returned (.tuple #[.agg #[.int .i64 (meetP al ah bl bh).1, .int .i64 (meetP al ah bl bh).2.1], .int .i64 (meetP al ah bl bh).2.2]) ∧ Below w.heap.size w w' := by
  cases v1 : QM.vld al ah
  · have hP : meetP al ah bl bh = (0, 0, 2) := if_neg (by rw [allV2, v1]; simp)
    rw [hP]
    have V1 := Lib.hid v1
    have V2 := Lib.hid v1
    clear v1 hP
    go_enter Try.func34, Try.ntmps34
    go_wp2_with (go_at_call 102; refine (Valid_x _ _ _ (by first | exact V1.out | exact V2.out) _).mono ?_; rintro e w' ⟨rfl, rfl⟩)
    exact bodyPost_ret (v := .tuple #[.agg #[.int .i64 (0), .int .i64 (0)], .int .i64 (2)]) (by simp [results, Try.results34, go_sem]) rfl ⟨rfl, by repeat (first | exact Below.refl _ _ | refine Below.setCell ?_ (by first | (simp; done) | omega | (simp; omega)) _ | refine Below.alloc ?_ (by first | (simp; done) | omega | (simp; omega)) _)⟩
  · cases v2 : QM.vld bl bh
    · have hP : meetP al ah bl bh = (0, 0, 2) := if_neg (by rw [allV2, v2]; simp)
      rw [hP]
      have V1 := Lib.hid v1
      have V2 := Lib.hid v2
      clear v1 v2 hP
      go_enter Try.func34, Try.ntmps34
      go_wp2_with (go_at_call 102; refine (Valid_x _ _ _ (by first | exact V1.out | exact V2.out) _).mono ?_; rintro e w' ⟨rfl, rfl⟩)
      exact bodyPost_ret (v := .tuple #[.agg #[.int .i64 (0), .int .i64 (0)], .int .i64 (2)]) (by simp [results, Try.results34, go_sem]) rfl ⟨rfl, by repeat (first | exact Below.refl _ _ | refine Below.setCell ?_ (by first | (simp; done) | omega | (simp; omega)) _ | refine Below.alloc ?_ (by first | (simp; done) | omega | (simp; omega)) _)⟩
    · have hv : allV [(al, ah), (bl, bh)] = true := by rw [allV2, v1, v2]; rfl
      obtain ⟨⟨x1, x2, x3⟩, ⟨x4, x5, x6⟩⟩ := allV2_bd hv
      have V1 := Lib.hid v1
      have V2 := Lib.hid v2
      by_cases hm : max al bl ≤ min ah bh
      · have hP : meetP al ah bl bh = (max al bl, min ah bh, 0) := by unfold meetP; rw [if_pos hv, if_pos hm]
        rw [hP]
        clear hv v1 v2 hP
        go_enter Try.func34, Try.ntmps34
        go_wp2_with (go_at_call 102; refine (Valid_x _ _ _ (by first | exact V1.out | exact V2.out) _).mono ?_; rintro e w' ⟨rfl, rfl⟩)
        exact bodyPost_ret (v := .tuple #[.agg #[.int .i64 (max al bl), .int .i64 (min ah bh)], .int .i64 (0)]) (by simp [results, Try.results34, go_sem]) rfl ⟨rfl, by repeat (first | exact Below.refl _ _ | refine Below.setCell ?_ (by first | (simp; done) | omega | (simp; omega)) _ | refine Below.alloc ?_ (by first | (simp; done) | omega | (simp; omega)) _)⟩
      · have hP : meetP al ah bl bh = (0, 0, 5) := by unfold meetP; rw [if_pos hv, if_neg hm]
        rw [hP]
        clear hv v1 v2 hP
        go_enter Try.func34, Try.ntmps34
        go_wp2_with (go_at_call 102; refine (Valid_x _ _ _ (by first | exact V1.out | exact V2.out) _).mono ?_; rintro e w' ⟨rfl, rfl⟩)
        exact bodyPost_ret (v := .tuple #[.agg #[.int .i64 (0), .int .i64 (0)], .int .i64 (5)]) (by simp [results, Try.results34, go_sem]) rfl ⟨rfl, by repeat (first | exact Below.refl _ _ | refine Below.setCell ?_ (by first | (simp; done) | omega | (simp; omega)) _ | refine Below.alloc ?_ (by first | (simp; done) | omega | (simp; omega)) _)⟩
set_option maxRecDepth 100000 in
set_option maxHeartbeats 1000000 in
/-- the reference's 'Neg' -/
theorem rNeg_any (lo hi : Int) (w : World) : Calls Try.prog 86 #[.agg #[.int .i64 lo, .int .i64 hi]] w fun e w' => e = .returned (.tuple #[.agg #[.int .i64 (negP lo hi).1, .int .i64 (negP lo hi).2.1], .int .i64 (negP lo hi).2.2]) ∧ Below w.heap.size w w' := by
  cases v1 : QM.vld lo hi
  · have hP : negP lo hi = (0, 0, 2) := if_neg (by rw [v1]; simp)
    rw [hP]
    have V1 := Lib.hid v1
    have V2 := Lib.hid v1
    clear v1 hP
    go_enter Try.func86, Try.ntmps86
    go_wp2_with (go_at_call 102; refine (Valid_x _ _ _ (by first | exact V1.out | exact V2.out) _).mono ?_; rintro e w' ⟨rfl, rfl⟩)
    exact bodyPost_ret (v := .tuple #[.agg #[.int .i64 (0), .int .i64 (0)], .int .i64 (2)]) (by simp [results, Try.results86, go_sem]) rfl ⟨rfl, by repeat (first | exact Below.refl _ _ | refine Below.setCell ?_ (by first | (simp; done) | omega | (simp; omega)) _ | refine Below.alloc ?_ (by first | (simp; done) | omega | (simp; omega)) _)⟩
  · obtain ⟨x1, x2, x3⟩ := QM.vld_iff.1 v1
    have V1 := Lib.hid v1
    have V2 := Lib.hid v1
    obtain ⟨P, hPP⟩ : ∃ P, QM.sp (-hi) (-lo) = P := ⟨_, rfl⟩
    have hP : negP lo hi = P := by rw [← hPP]; exact if_pos v1
    have KL := Lib.hid (fun W => rspan_e (-hi) (-lo) P hPP W)
    rw [hP]
    clear v1 hP hPP
    go_enter Try.func86, Try.ntmps86
    go_wp2_with (first | (go_at_call 102; refine (Valid_x _ _ _ (by first | exact V1.out | exact V2.out) _).mono ?_; rintro e w' ⟨rfl, rfl⟩) | (go_at_call 104; refine (KL.out _).mono ?_; rintro e w' ⟨rfl, rfl⟩))
    exact bodyPost_ret (v := .tuple #[.agg #[.int .i64 (P.1), .int .i64 (P.2.1)], .int .i64 (P.2.2)]) (by simp [results, Try.results86, go_sem]) rfl ⟨rfl, by repeat (first | exact Below.refl _ _ | refine Below.setCell ?_ (by first | (simp; done) | omega | (simp; omega)) _ | refine Below.alloc ?_ (by first | (simp; done) | omega | (simp; omega)) _)⟩
set_option maxRecDepth 100000 in
set_option maxHeartbeats 1000000 in
/-- the reference's 'Grow' -/
theorem rGrow_any (lo hi d : Int) (w : World) : Calls Try.prog 93 #[.agg #[.int .i64 lo, .int .i64 hi], .int .i64 d] w fun e w' => e = .returned (.tuple #[.agg #[.int .i64 (growP lo hi d).1, .int .i64 (growP lo hi d).2.1], .int .i64 (growP lo hi d).2.2]) ∧ Below w.heap.size w w' := by
  cases v1 : QM.vld lo hi
  · have hP : growP lo hi d = (0, 0, 2) := if_neg (by rw [v1]; simp)
    rw [hP]
    have V1 := Lib.hid v1
    have V2 := Lib.hid v1
    clear v1 hP
    go_enter Try.func93, Try.ntmps93
    go_wp2_with (go_at_call 102; refine (Valid_x _ _ _ (by first | exact V1.out | exact V2.out) _).mono ?_; rintro e w' ⟨rfl, rfl⟩)
    exact bodyPost_ret (v := .tuple #[.agg #[.int .i64 (0), .int .i64 (0)], .int .i64 (2)]) (by simp [results, Try.results93, go_sem]) rfl ⟨rfl, by repeat (first | exact Below.refl _ _ | refine Below.setCell ?_ (by first | (simp; done) | omega | (simp; omega)) _ | refine Below.alloc ?_ (by first | (simp; done) | omega | (simp; omega)) _)⟩
  · obtain ⟨x1, x2, x3⟩ := QM.vld_iff.1 v1
    have V1 := Lib.hid v1
    have V2 := Lib.hid v1
    by_cases hd : 0 ≤ d
    · cases h1 : QM.isQ d
      · have hP : growP lo hi d = (0, 0, 2) := if_neg (fun h => by have : QM.isQ d = true := by (unfold QM.isQ; simp; omega)
                                                                   rw [this] at h1; cases h1)
        rw [hP]
        have H1 := Lib.hid h1
        have H2 := Lib.hid h1
        clear v1 hP h1
        go_enter Try.func93, Try.ntmps93
        go_wp2_with (first | (go_at_call 102; refine (Valid_x _ _ _ (by first | exact V1.out | exact V2.out) _).mono ?_; rintro e w' ⟨rfl, rfl⟩) | (go_at_call 76; refine (Is_eq _ _ _ (by first | exact H1.out | exact H2.out)).mono ?_; rintro e w' ⟨rfl, rfl⟩))
        exact bodyPost_ret (v := .tuple #[.agg #[.int .i64 (0), .int .i64 (0)], .int .i64 (2)]) (by simp [results, Try.results93, go_sem]) rfl ⟨rfl, by repeat (first | exact Below.refl _ _ | refine Below.setCell ?_ (by first | (simp; done) | omega | (simp; omega)) _ | refine Below.alloc ?_ (by first | (simp; done) | omega | (simp; omega)) _)⟩
      · obtain ⟨y1, y2⟩ := QM.isQ_bd h1
        obtain ⟨P, hPP⟩ : ∃ P, QM.sp (lo - d) (hi + d) = P := ⟨_, rfl⟩
        have hP : growP lo hi d = P := by rw [← hPP]; exact if_pos ⟨v1, hd, y2⟩
        have KL := Lib.hid (fun W => rspan_e (lo - d) (hi + d) P hPP W)
        rw [hP]
        have H1 := Lib.hid h1
        have H2 := Lib.hid h1
        clear v1 hP hPP h1
        go_enter Try.func93, Try.ntmps93
        go_wp2_with (first | (go_at_call 102; refine (Valid_x _ _ _ (by first | exact V1.out | exact V2.out) _).mono ?_; rintro e w' ⟨rfl, rfl⟩) | (go_at_call 76; refine (Is_eq _ _ _ (by first | exact H1.out | exact H2.out)).mono ?_; rintro e w' ⟨rfl, rfl⟩) | (go_at_call 104; refine (KL.out _).mono ?_; rintro e w' ⟨rfl, rfl⟩))
        exact bodyPost_ret (v := .tuple #[.agg #[.int .i64 (P.1), .int .i64 (P.2.1)], .int .i64 (P.2.2)]) (by simp [results, Try.results93, go_sem]) rfl ⟨rfl, by repeat (first | exact Below.refl _ _ | refine Below.setCell ?_ (by first | (simp; done) | omega | (simp; omega)) _ | refine Below.alloc ?_ (by first | (simp; done) | omega | (simp; omega)) _)⟩
    · have hP : growP lo hi d = (0, 0, 2) := if_neg (fun h => hd h.2.1)
      rw [hP]
      clear v1 hP
      go_enter Try.func93, Try.ntmps93
      go_wp2_with (go_at_call 102; refine (Valid_x _ _ _ (by first | exact V1.out | exact V2.out) _).mono ?_; rintro e w' ⟨rfl, rfl⟩)
      exact bodyPost_ret (v := .tuple #[.agg #[.int .i64 (0), .int .i64 (0)], .int .i64 (2)]) (by simp [results, Try.results93, go_sem]) rfl ⟨rfl, by repeat (first | exact Below.refl _ _ | refine Below.setCell ?_ (by first | (simp; done) | omega | (simp; omega)) _ | refine Below.alloc ?_ (by first | (simp; done) | omega | (simp; omega)) _)⟩
set_option maxRecDepth 100000 in
set_option maxHeartbeats 1000000 in
/-- the reference's 'Width' -/
theorem rWidth_any (lo hi : Int) (w : World) : Calls Try.prog 97 #[.agg #[.int .i64 lo, .int .i64 hi]] w fun e w' => e = .returned (.tuple #[.int .i64 (widthP lo hi).1, .int .i64 (widthP lo hi).2]) ∧ Below w.heap.size w w' := by
  cases v1 : QM.vld lo hi
  · have hP : widthP lo hi = (0, 2) := if_neg (by rw [v1]; simp)
    rw [hP]
    have V1 := Lib.hid v1
    have V2 := Lib.hid v1
    clear v1 hP
    go_enter Try.func97, Try.ntmps97
    go_wp2_with (go_at_call 102; refine (Valid_x _ _ _ (by first | exact V1.out | exact V2.out) _).mono ?_; rintro e w' ⟨rfl, rfl⟩)
    go_ret2
    exact ⟨rfl, by repeat (first | exact Below.refl _ _ | refine Below.setCell ?_ (by first | (simp; done) | omega | (simp; omega)) _ | refine Below.alloc ?_ (by first | (simp; done) | omega | (simp; omega)) _)⟩
  · obtain ⟨x1, x2, x3⟩ := QM.vld_iff.1 v1
    have hP : widthP lo hi = QM.lim (hi - lo) := if_pos v1
    rw [hP]
    have V1 := Lib.hid v1
    have V2 := Lib.hid v1
    clear v1 hP
    go_enter Try.func97, Try.ntmps97
    go_wp2_with (first | (go_at_call 102; refine (Valid_x _ _ _ (by first | exact V1.out | exact V2.out) _).mono ?_; rintro e w' ⟨rfl, rfl⟩) | (go_at_call 78; refine (number_any (hi - lo) _).mono ?_; rintro e w' ⟨rfl, rfl⟩))
    go_ret2
    exact ⟨rfl, by repeat (first | exact Below.refl _ _ | refine Below.setCell ?_ (by first | (simp; done) | omega | (simp; omega)) _ | refine Below.alloc ?_ (by first | (simp; done) | omega | (simp; omega)) _)⟩
/-- where the numbers are small, the roundings are exact -/
theorem mid_eq {lo hi : Int} (x1 : -1099511627776 ≤ lo) (x2 : lo ≤ hi) (x3 : hi ≤ 1099511627776) : QM.vF (lo + hi) 1 2 = QM.dn (lo + hi) 1 2 := by
  have h1 := QM.vF_cl (a := lo + hi) (b := 1) (d := 2) (by omega)
  have h2 := QM.dn_cl (x := lo + hi) (n := 1) (d := 2) (by omega)
  have hb : QM.isQ (QM.fl (lo + hi) 1 2) = true := by unfold QM.isQ QM.fl; simp; omega
  rw [h1.eq hb, h2.eq hb]
set_option maxRecDepth 100000 in
set_option maxHeartbeats 1000000 in
/-- the reference's 'Middle' -/
theorem rMiddle_any (lo hi : Int) (w : World) : Calls Try.prog 99 #[.agg #[.int .i64 lo, .int .i64 hi]] w fun e w' => e = .returned (.tuple #[.int .i64 (middleP lo hi).1, .int .i64 (middleP lo hi).2]) ∧ Below w.heap.size w w' := by
  cases v1 : QM.vld lo hi
  · have hP : middleP lo hi = (0, 2) := if_neg (by rw [v1]; simp)
    rw [hP]
    have V1 := Lib.hid v1
    have V2 := Lib.hid v1
    clear v1 hP
    go_enter Try.func99, Try.ntmps99
    go_wp2_with (go_at_call 102; refine (Valid_x _ _ _ (by first | exact V1.out | exact V2.out) _).mono ?_; rintro e w' ⟨rfl, rfl⟩)
    go_ret2
    exact ⟨rfl, by repeat (first | exact Below.refl _ _ | refine Below.setCell ?_ (by first | (simp; done) | omega | (simp; omega)) _ | refine Below.alloc ?_ (by first | (simp; done) | omega | (simp; omega)) _)⟩
  · obtain ⟨x1, x2, x3⟩ := QM.vld_iff.1 v1
    have hP : middleP lo hi = (QM.dn (lo + hi) 1 2, 0) := by rw [← mid_eq x1 x2 x3]; exact if_pos v1
    rw [hP]
    have K := Lib.hid (fun W => Down_any (lo + hi) 1 2 W (by omega) (by omega) (by omega) (by omega) (by omega) (by omega) (by omega))
    generalize QM.dn (lo + hi) 1 2 = v at *
    have V1 := Lib.hid v1
    have V2 := Lib.hid v1
    clear v1 hP
    go_enter Try.func99, Try.ntmps99
    go_wp2_with (first | (go_at_call 102; refine (Valid_x _ _ _ (by first | exact V1.out | exact V2.out) _).mono ?_; rintro e w' ⟨rfl, rfl⟩) | (go_at_call 79; refine (K.out _).mono ?_; rintro e w' ⟨rfl, rfl⟩))
    go_ret2
    exact ⟨rfl, by repeat (first | exact Below.refl _ _ | refine Below.setCell ?_ (by first | (simp; done) | omega | (simp; omega)) _ | refine Below.alloc ?_ (by first | (simp; done) | omega | (simp; omega)) _)⟩
set_option maxRecDepth 100000 in
set_option maxHeartbeats 1000000 in
/-- the reference's 'Has' -/
theorem rHas_any (lo hi x : Int) (w : World) : Calls Try.prog 89 #[.agg #[.int .i64 lo, .int .i64 hi], .int .i64 x] w fun e w' => e = .returned (.bool (QM.vld lo hi && (decide (lo ≤ x) && decide (x ≤ hi)))) ∧ Below w.heap.size w w' := by
  cases v1 : QM.vld lo hi
  all_goals cases h1 : decide (lo ≤ x)
  all_goals cases h2 : decide (x ≤ hi)
  all_goals have V1 := Lib.hid v1
  all_goals have V2 := Lib.hid v1
  all_goals clear v1
  all_goals go_enter Try.func89, Try.ntmps89
  all_goals go_wp2_with (go_at_call 102; refine (Valid_x _ _ _ (by first | exact V1.out | exact V2.out) _).mono ?_; rintro e w' ⟨rfl, rfl⟩)
  all_goals go_ret
  all_goals exact ⟨by first | rfl | (simp only [h2]; rfl), by repeat (first | exact Below.refl _ _ | refine Below.setCell ?_ (by first | (simp; done) | omega | (simp; omega)) _ | refine Below.alloc ?_ (by first | (simp; done) | omega | (simp; omega)) _)⟩
set_option maxRecDepth 100000 in
set_option maxHeartbeats 1000000 in
/-- the reference's 'Inside' -/
theorem rInside_any (al ah bl bh : Int) (w : World) : Calls Try.prog 24 #[.agg #[.int .i64 al, .int .i64 ah], .agg #[.int .i64 bl, .int .i64 bh]] w fun e w' => e = .returned (.bool (QM.vld al ah && QM.vld bl bh && decide (bl ≤ al) && decide (ah ≤ bh))) ∧ Below w.heap.size w w' := by
  cases v1 : QM.vld al ah
  all_goals cases v2 : QM.vld bl bh
  all_goals cases h1 : decide (bl ≤ al)
  all_goals cases h2 : decide (ah ≤ bh)
  all_goals have V1 := Lib.hid v1
  all_goals have V2 := Lib.hid v2
  all_goals clear v1 v2
  all_goals go_enter Try.func24, Try.ntmps24
  all_goals go_wp2_with (go_at_call 102; refine (Valid_x _ _ _ (by first | exact V1.out | exact V2.out) _).mono ?_; rintro e w' ⟨rfl, rfl⟩)
  all_goals go_ret
  all_goals exact ⟨by first | rfl | (simp only [h2]; rfl), by repeat (first | exact Below.refl _ _ | refine Below.setCell ?_ (by first | (simp; done) | omega | (simp; omega)) _ | refine Below.alloc ?_ (by first | (simp; done) | omega | (simp; omega)) _)⟩
theorem inside_eq (al ah bl bh : Int) : insideB al ah bl bh = (QM.vld al ah && QM.vld bl bh && decide (bl ≤ al) && decide (ah ≤ bh)) := by
  unfold insideB
  rw [allV2]
  cases v1 : QM.vld al ah
  · simp
  · cases v2 : QM.vld bl bh
    · simp
    · have := QM.vld_iff.1 v1
      have := QM.vld_iff.1 v2
      rw [Bool.eq_iff_iff]; simp; omega
end Go.Proofs.Ytlaalhbicblbeaa
