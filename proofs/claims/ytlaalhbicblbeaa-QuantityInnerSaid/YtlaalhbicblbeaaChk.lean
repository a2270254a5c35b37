/- The contracts of the checks of spans, and of limitedSpan, contains and Has. -/
import Derived.Test.YtlaalhbicblbeaaRnd
namespace Go.Proofs.Ytlaalhbicblbeaa
open Go.RowKit
set_option maxRecDepth 100000 in
set_option maxHeartbeats 1000000 in
/-- 'Check' -/
theorem Check_any (lo hi : Int) (w : World) : Calls Try.prog 87 #[.agg #[.int .i64 lo, .int .i64 hi]] w fun e w' => e = .returned (.int .i64 (QM.chk lo hi)) ∧ Below w.heap.size w w' := by
  have hv : QM.vld lo hi = (QM.isQ lo && QM.isQ hi && decide (lo ≤ hi)) := rfl
  unfold QM.chk
  rw [hv]
  cases h1 : QM.isQ lo
  all_goals cases h2 : QM.isQ hi
  all_goals cases h3 : decide (lo ≤ hi)
  all_goals have H1 := Lib.hid h1
  all_goals have H2 := Lib.hid h2
  all_goals clear h1 h2 hv
  all_goals simp only [Bool.and_true, Bool.and_false, Bool.false_eq_true, if_true, if_false]
  all_goals (first | (have h4 : decide (hi < lo) = true := by (simp at h3 ⊢; omega)) | (have h4 : decide (hi < lo) = false := by (simp at h3 ⊢; omega)))
  all_goals go_enter Try.func87, Try.ntmps87
  all_goals go_wp2_with (go_at_call 85; refine (isQ_eq _ _ _ (by first | exact H1.out | exact H2.out)).mono ?_; rintro e w' ⟨rfl, rfl⟩)
  all_goals go_ret
  all_goals exact ⟨rfl, by repeat (first | exact Below.refl _ _ | assumption | refine Below.trans ?_ (hb1.mono (by first | (simp; done) | omega | (simp; omega))) | refine Below.setCell ?_ (by first | (simp; done) | omega | (simp; omega)) _ | refine Below.alloc ?_ (by first | (simp; done) | omega | (simp; omega)) _)⟩
set_option maxRecDepth 100000 in
set_option maxHeartbeats 1000000 in
/-- 'limitedSpan' -/
theorem limitedSpan_any (lo hi : Int) (w : World) : Calls Try.prog 103 #[.int .i64 lo, .int .i64 hi] w fun e w' => e = .returned (.tuple #[.agg #[.int .i64 (QM.sp lo hi).1, .int .i64 (QM.sp lo hi).2.1], .int .i64 (QM.sp lo hi).2.2]) ∧ Below w.heap.size w w' := by
  unfold QM.sp
  cases h1 : QM.isQ lo
  all_goals cases h2 : QM.isQ hi
  all_goals have H1 := Lib.hid h1
  all_goals have H2 := Lib.hid h2
  all_goals clear h1 h2
  all_goals simp only [Bool.false_eq_true, and_true, and_false, and_self, if_true, if_false]
  all_goals go_enter Try.func103, Try.ntmps103
  all_goals go_wp2_with (go_at_call 85; refine (isQ_eq _ _ _ (by first | exact H1.out | exact H2.out)).mono ?_; rintro e w' ⟨rfl, rfl⟩)
  all_goals (first | exact bodyPost_ret (v := .tuple #[.agg #[.int .i64 lo, .int .i64 hi], .int .i64 0]) (by simp [results, Try.results103, go_sem]) rfl ⟨rfl, by repeat (first | exact Below.refl _ _ | assumption | refine Below.trans ?_ (hb1.mono (by first | (simp; done) | omega | (simp; omega))) | refine Below.setCell ?_ (by first | (simp; done) | omega | (simp; omega)) _ | refine Below.alloc ?_ (by first | (simp; done) | omega | (simp; omega)) _)⟩ | exact bodyPost_ret (v := .tuple #[.agg #[.int .i64 0, .int .i64 0], .int .i64 4]) (by simp [results, Try.results103, go_sem]) rfl ⟨rfl, by repeat (first | exact Below.refl _ _ | assumption | refine Below.trans ?_ (hb1.mono (by first | (simp; done) | omega | (simp; omega))) | refine Below.setCell ?_ (by first | (simp; done) | omega | (simp; omega)) _ | refine Below.alloc ?_ (by first | (simp; done) | omega | (simp; omega)) _)⟩)
set_option maxRecDepth 100000 in
set_option maxHeartbeats 1000000 in
/-- 'contains' -/
theorem contains_any (lo hi x : Int) (w : World) : Calls Try.prog 101 #[.agg #[.int .i64 lo, .int .i64 hi], .int .i64 x] w fun e w' => e = .returned (.bool (decide (lo ≤ x) && decide (x ≤ hi))) ∧ Below w.heap.size w w' := by
  cases h1 : decide (lo ≤ x)
  all_goals cases h2 : decide (x ≤ hi)
  all_goals go_enter Try.func101, Try.ntmps101
  all_goals go_wp2
  all_goals go_ret
  all_goals exact ⟨by first | rfl | (simp only [h2]; rfl), by repeat (first | exact Below.refl _ _ | assumption | refine Below.trans ?_ (hb1.mono (by first | (simp; done) | omega | (simp; omega))) | refine Below.setCell ?_ (by first | (simp; done) | omega | (simp; omega)) _ | refine Below.alloc ?_ (by first | (simp; done) | omega | (simp; omega)) _)⟩
end Go.Proofs.Ytlaalhbicblbeaa
