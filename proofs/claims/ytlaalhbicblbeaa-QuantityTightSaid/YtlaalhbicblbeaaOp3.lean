/- The contracts of Clip and Inside. -/
import Derived.Test.YtlaalhbicblbeaaOp2
namespace Go.Proofs.Ytlaalhbicblbeaa
open Go.RowKit
def clipP (lo hi a b : Int) : Int × Int × Int := if allV [(lo, hi), (a, b)] = true then (min (max lo a) b, min (max hi a) b, 0) else (0, 0, 2)
set_option maxRecDepth 100000 in
set_option maxHeartbeats 1000000 in
/-- 'Clip' -/
theorem Clip_any (lo hi a b : Int) (w : World) : Calls Try.prog 94 #[.agg #[.int .i64 lo, .int .i64 hi], .int .i64 a, .int .i64 b] w fun e w' => e = .returned (.tuple #[.agg #[.int .i64 (clipP lo hi a b).1, .int .i64 (clipP lo hi a b).2.1], .int .i64 (clipP lo hi a b).2.2]) ∧ Below w.heap.size w w' := by
  cases hv : allV [(lo, hi), (a, b)]
  · have hP : clipP lo hi a b = (0, 0, 2) := if_neg (by rw [hv]; simp)
    rw [hP]
    have HC := Lib.hid (chkL_f hv)
    clear hv hP
    go_enter Try.func94, Try.ntmps94
    go_wp2_with fail
    refine (checkSpans2 lo hi a b _ _ _ (by first | (simp; done) | (simp [go_sem]; done) | (go_simp; done)) (by first | (simp; done) | (simp [go_sem]; done) | (go_simp; done)) (by first | (simp; done) | (simp [go_sem]; done) | (go_simp; done)) (by first | (simp; done) | (simp [go_sem]; done) | (go_simp; done)) (by first | (simp; done) | (simp [go_sem]; done) | (go_simp; done)) _ HC.out).mono ?_
    rintro e w1 ⟨rfl, hb1⟩
    obtain ⟨hc1, hf1⟩ := bcell hb1
    go_wp2_with fail
    exact bodyPost_ret (v := .tuple #[.agg #[.int .i64 0, .int .i64 0], .int .i64 2]) (by simp [results, Try.results94, go_sem, hc1]) rfl ⟨rfl, by repeat (first | exact Below.refl _ _ | assumption | refine Below.trans ?_ (hb2.mono (by first | (simp; done) | omega | (simp; omega) | (have := hb1.size; (try simp at this); omega))) | refine Below.trans ?_ (hb1.mono (by first | (simp; done) | omega | (simp; omega))) | refine Below.drew ?_ | refine below_drewN ?_ _ | refine Below.setCell ?_ (by first | (simp; done) | omega | (simp; omega)) _ | refine Below.alloc ?_ (by first | (simp; done) | omega | (simp; omega)) _)⟩
  · have hP : clipP lo hi a b = (min (max lo a) b, min (max hi a) b, 0) := if_pos hv
    rw [hP]
    have HC := Lib.hid (chkL_t hv)
    clear hv hP
    go_enter Try.func94, Try.ntmps94
    go_wp2_with fail
    refine (checkSpans2 lo hi a b _ _ _ (by first | (simp; done) | (simp [go_sem]; done) | (go_simp; done)) (by first | (simp; done) | (simp [go_sem]; done) | (go_simp; done)) (by first | (simp; done) | (simp [go_sem]; done) | (go_simp; done)) (by first | (simp; done) | (simp [go_sem]; done) | (go_simp; done)) (by first | (simp; done) | (simp [go_sem]; done) | (go_simp; done)) _ HC.out).mono ?_
    rintro e w1 ⟨rfl, hb1⟩
    obtain ⟨hc1, hf1⟩ := bcell hb1
    go_wp2_with fail
    exact bodyPost_ret (v := .tuple #[.agg #[.int .i64 (min (max lo a) b), .int .i64 (min (max hi a) b)], .int .i64 0]) (by simp [results, Try.results94, go_sem, hc1]) rfl ⟨rfl, by repeat (first | exact Below.refl _ _ | assumption | refine Below.trans ?_ (hb2.mono (by first | (simp; done) | omega | (simp; omega) | (have := hb1.size; (try simp at this); omega))) | refine Below.trans ?_ (hb1.mono (by first | (simp; done) | omega | (simp; omega))) | refine Below.drew ?_ | refine below_drewN ?_ _ | refine Below.setCell ?_ (by first | (simp; done) | omega | (simp; omega)) _ | refine Below.alloc ?_ (by first | (simp; done) | omega | (simp; omega)) _)⟩
def insideB (al ah bl bh : Int) : Bool := allV [(al, ah), (bl, bh)] && ((decide (bl ≤ al) && decide (al ≤ bh)) && (decide (bl ≤ ah) && decide (ah ≤ bh)))
theorem contains_e (lo hi x : Int) (b : Bool) (h : (decide (lo ≤ x) && decide (x ≤ hi)) = b) (W : World) : Calls Try.prog 101 #[.agg #[.int .i64 lo, .int .i64 hi], .int .i64 x] W fun e w' => e = .returned (.bool b) ∧ Below W.heap.size W w' := by
  rw [← h]; exact contains_any lo hi x W
set_option maxRecDepth 100000 in
set_option maxHeartbeats 1000000 in
/-- 'Inside' -/
theorem Inside_any (al ah bl bh : Int) (w : World) : Calls Try.prog 23 #[.agg #[.int .i64 al, .int .i64 ah], .agg #[.int .i64 bl, .int .i64 bh]] w fun e w' => e = .returned (.bool (insideB al ah bl bh)) ∧ Below w.heap.size w w' := by
  unfold insideB
  cases hv : allV [(al, ah), (bl, bh)]
  · rw [Bool.false_and]
    have HC := Lib.hid (chkL_f hv)
    clear hv
    go_enter Try.func23, Try.ntmps23
    go_wp2_with fail
    refine (checkSpans2 al ah bl bh _ _ _ (by first | (simp; done) | (simp [go_sem]; done) | (go_simp; done)) (by first | (simp; done) | (simp [go_sem]; done) | (go_simp; done)) (by first | (simp; done) | (simp [go_sem]; done) | (go_simp; done)) (by first | (simp; done) | (simp [go_sem]; done) | (go_simp; done)) (by first | (simp; done) | (simp [go_sem]; done) | (go_simp; done)) _ HC.out).mono ?_
    rintro e w1 ⟨rfl, hb1⟩
    go_wp2_with fail
    go_ret
    exact ⟨rfl, by repeat (first | exact Below.refl _ _ | assumption | refine Below.trans ?_ (hb2.mono (by first | (simp; done) | omega | (simp; omega) | (have := hb1.size; (try simp at this); omega))) | refine Below.trans ?_ (hb1.mono (by first | (simp; done) | omega | (simp; omega))) | refine Below.drew ?_ | refine below_drewN ?_ _ | refine Below.setCell ?_ (by first | (simp; done) | omega | (simp; omega)) _ | refine Below.alloc ?_ (by first | (simp; done) | omega | (simp; omega)) _)⟩
  · rw [Bool.true_and]
    have HC := Lib.hid (chkL_t hv)
    clear hv
    have z : ∀ h, w.heap.size + 3 ≤ h → w.heap.size < h ∧ w.heap.size + 1 < h := fun h k => ⟨by omega, by omega⟩
    have Z := Lib.hid z
    clear z
    cases h1 : (decide (bl ≤ al) && decide (al ≤ bh))
    · rw [Bool.false_and]
      have H1 := Lib.hid h1
      clear h1
      go_enter Try.func23, Try.ntmps23
      go_wp2_with fail
      refine (checkSpans2 al ah bl bh _ _ _ (by first | (simp; done) | (simp [go_sem]; done) | (go_simp; done)) (by first | (simp; done) | (simp [go_sem]; done) | (go_simp; done)) (by first | (simp; done) | (simp [go_sem]; done) | (go_simp; done)) (by first | (simp; done) | (simp [go_sem]; done) | (go_simp; done)) (by first | (simp; done) | (simp [go_sem]; done) | (go_simp; done)) _ HC.out).mono ?_
      rintro e w1 ⟨rfl, hb1⟩
      obtain ⟨hc1, hf1⟩ := bcell hb1
      go_wp2_with fail
      refine (contains_e bl bh al _ H1.out _).mono ?_
      rintro e w2 ⟨rfl, hb2⟩
      go_wp2_with fail
      go_ret
      exact ⟨rfl, by repeat (first | exact Below.refl _ _ | assumption | refine Below.trans ?_ (hb2.mono (by first | (simp; done) | omega | (simp; omega) | (have := hb1.size; (try simp at this); omega))) | refine Below.trans ?_ (hb1.mono (by first | (simp; done) | omega | (simp; omega))) | refine Below.drew ?_ | refine below_drewN ?_ _ | refine Below.setCell ?_ (by first | (simp; done) | omega | (simp; omega)) _ | refine Below.alloc ?_ (by first | (simp; done) | omega | (simp; omega)) _)⟩
    · rw [Bool.true_and]
      cases h2 : (decide (bl ≤ ah) && decide (ah ≤ bh))
      all_goals have H1 := Lib.hid h1
      all_goals have H2 := Lib.hid h2
      all_goals clear h1 h2
      all_goals go_enter Try.func23, Try.ntmps23
      all_goals go_wp2_with fail
      all_goals refine (checkSpans2 al ah bl bh _ _ _ (by first | (simp; done) | (simp [go_sem]; done) | (go_simp; done)) (by first | (simp; done) | (simp [go_sem]; done) | (go_simp; done)) (by first | (simp; done) | (simp [go_sem]; done) | (go_simp; done)) (by first | (simp; done) | (simp [go_sem]; done) | (go_simp; done)) (by first | (simp; done) | (simp [go_sem]; done) | (go_simp; done)) _ HC.out).mono ?_
      all_goals rintro e w1 ⟨rfl, hb1⟩
      all_goals obtain ⟨hc1, hf1⟩ := bcell hb1
      all_goals go_wp2_with fail
      all_goals refine (contains_e bl bh al _ H1.out _).mono ?_
      all_goals rintro e w2 ⟨rfl, hb2⟩
      all_goals have hs1 := hb1.size
      all_goals simp at hs1
      all_goals obtain ⟨zz1, zz2⟩ := Z.out _ (show w.heap.size + 3 ≤ w1.heap.size by omega)
      all_goals obtain ⟨hc2, hf2⟩ := bcell hb2
      all_goals go_wp2_with fail
      all_goals refine (contains_e bl bh ah _ H2.out _).mono ?_
      all_goals rintro e w3 ⟨rfl, hb3⟩
      all_goals go_wp2_with fail
      all_goals go_ret
      all_goals exact ⟨rfl, by repeat (first | exact Below.refl _ _ | assumption | refine Below.trans ?_ (hb3.mono (by first | (simp; done) | omega | (simp; omega) | (have := hb2.size; (try simp at this); omega))) | refine Below.trans ?_ (hb2.mono (by first | (simp; done) | omega | (simp; omega) | (have := hb1.size; (try simp at this); omega))) | refine Below.trans ?_ (hb1.mono (by first | (simp; done) | omega | (simp; omega))) | refine Below.drew ?_ | refine below_drewN ?_ _ | refine Below.setCell ?_ (by first | (simp; done) | omega | (simp; omega)) _ | refine Below.alloc ?_ (by first | (simp; done) | omega | (simp; omega)) _)⟩
end Go.Proofs.Ytlaalhbicblbeaa
