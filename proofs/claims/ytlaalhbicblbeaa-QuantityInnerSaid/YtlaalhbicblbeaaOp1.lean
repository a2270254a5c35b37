/- The contracts of the functions of spans: Add, Sub, Neg, Meet, Hull, Grow, Clip, Width, Middle, Scale, Inside. -/
import Derived.Test.YtlaalhbicblbeaaMul
namespace Go.Proofs.Ytlaalhbicblbeaa
open Go.RowKit
theorem chkL_t {L : List (Int × Int)} (h : allV L = true) : chkL L = 0 := by unfold chkL; rw [h]; rfl
theorem chkL_f {L : List (Int × Int)} (h : allV L = false) : chkL L = 2 := by unfold chkL; rw [h]; rfl
theorem chk_t {a b : Int} (h : QM.vld a b = true) : QM.chk a b = 0 := by unfold QM.chk; rw [h]; rfl
theorem chk_f {a b : Int} (h : QM.vld a b = false) : QM.chk a b = 2 := by unfold QM.chk; rw [h]; rfl
theorem allV2_bd {al ah bl bh : Int} (h : allV [(al, ah), (bl, bh)] = true) : (-1099511627776 ≤ al ∧ al ≤ ah ∧ ah ≤ 1099511627776) ∧ (-1099511627776 ≤ bl ∧ bl ≤ bh ∧ bh ≤ 1099511627776) := by
  rw [allV2, Bool.and_eq_true] at h
  exact ⟨QM.vld_iff.1 h.1, QM.vld_iff.1 h.2⟩
theorem res_cells {w1 : World} {g : Nat} {x0 x1 : Value} (p0 : w1.cell? ⟨g, 0, none⟩ = some x0) (p1 : w1.cell? ⟨g, 1, none⟩ = some x1) (v0 v1 : Value) (B : Obj) :
    (((w1.setCell ⟨g, 0, none⟩ v0).setCell ⟨g, 1, none⟩ v1).alloc B).cell? ⟨g, 0, none⟩ = some v0 ∧ (((w1.setCell ⟨g, 0, none⟩ v0).setCell ⟨g, 1, none⟩ v1).alloc B).cell? ⟨g, 1, none⟩ = some v1 := by
  refine ⟨keep_alloc ?_, keep_alloc (set_set p1)⟩
  have : ((w1.setCell ⟨g, 0, none⟩ v0).setCell ⟨g, 1, none⟩ v1).cell? ⟨g, 0, none⟩ = (w1.setCell ⟨g, 0, none⟩ v0).cell? ⟨g, 0, none⟩ := by
    apply World.cell?_setCell_other
    simp
  rw [this]
  exact World.cell?_setCell_same' _ _ _ (by rw [p0]; rfl)
theorem Check_e (lo hi e : Int) (h : QM.chk lo hi = e) (W : World) : Calls Try.prog 87 #[.agg #[.int .i64 lo, .int .i64 hi]] W fun r w' => r = .returned (.int .i64 e) ∧ Below W.heap.size W w' := by
  rw [← h]; exact Check_any lo hi W
def addP (al ah bl bh : Int) : Int × Int × Int := if allV [(al, ah), (bl, bh)] = true then QM.sp (al + bl) (ah + bh) else (0, 0, 2)
set_option maxRecDepth 100000 in
set_option maxHeartbeats 1000000 in
/-- 'Add' -/
theorem Add_any (al ah bl bh : Int) (w : World) : Calls Try.prog 25 #[.agg #[.int .i64 al, .int .i64 ah], .agg #[.int .i64 bl, .int .i64 bh]] w fun e w' => e = .returned (.tuple #[.agg #[.int .i64 (addP al ah bl bh).1, .int .i64 (addP al ah bl bh).2.1], .int .i64 (addP al ah bl bh).2.2]) ∧ Below w.heap.size w w' := by
  cases hv : allV [(al, ah), (bl, bh)]
  · have hP : addP al ah bl bh = (0, 0, 2) := if_neg (by rw [hv]; simp)
    rw [hP]
    have HC := Lib.hid (chkL_f hv)
    clear hv hP
    go_enter Try.func25, Try.ntmps25
    go_wp2_with fail
    refine (checkSpans2 al ah bl bh _ _ _ (by first | (simp; done) | (simp [go_sem]; done) | (go_simp; done)) (by first | (simp; done) | (simp [go_sem]; done) | (go_simp; done)) (by first | (simp; done) | (simp [go_sem]; done) | (go_simp; done)) (by first | (simp; done) | (simp [go_sem]; done) | (go_simp; done)) (by first | (simp; done) | (simp [go_sem]; done) | (go_simp; done)) _ HC.out).mono ?_
    rintro e w1 ⟨rfl, hb1⟩
    obtain ⟨hc1, hf1⟩ := bcell hb1
    go_wp2_with fail
    exact bodyPost_ret (v := .tuple #[.agg #[.int .i64 0, .int .i64 0], .int .i64 2]) (by simp [results, Try.results25, go_sem, hc1]) rfl ⟨rfl, by repeat (first | exact Below.refl _ _ | assumption | refine Below.trans ?_ (hb2.mono (by first | (simp; done) | omega | (simp; omega) | (have := hb1.size; (try simp at this); omega))) | refine Below.trans ?_ (hb1.mono (by first | (simp; done) | omega | (simp; omega))) | refine Below.drew ?_ | refine below_drewN ?_ _ | refine Below.setCell ?_ (by first | (simp; done) | omega | (simp; omega)) _ | refine Below.alloc ?_ (by first | (simp; done) | omega | (simp; omega)) _)⟩
  · obtain ⟨P, hPP⟩ : ∃ P, QM.sp (al + bl) (ah + bh) = P := ⟨_, rfl⟩
    have hP : addP al ah bl bh = P := by rw [← hPP]; exact if_pos hv
    obtain ⟨⟨x1, x2, x3⟩, ⟨x4, x5, x6⟩⟩ := allV2_bd hv
    have HC := Lib.hid (chkL_t hv)
    have KL := Lib.hid (fun W => limitedSpan_any (al + bl) (ah + bh) W)
    rw [hPP] at KL
    rw [hP]
    clear hv hP hPP
    go_enter Try.func25, Try.ntmps25
    go_wp2_with fail
    refine (checkSpans2 al ah bl bh _ _ _ (by first | (simp; done) | (simp [go_sem]; done) | (go_simp; done)) (by first | (simp; done) | (simp [go_sem]; done) | (go_simp; done)) (by first | (simp; done) | (simp [go_sem]; done) | (go_simp; done)) (by first | (simp; done) | (simp [go_sem]; done) | (go_simp; done)) (by first | (simp; done) | (simp [go_sem]; done) | (go_simp; done)) _ HC.out).mono ?_
    rintro e w1 ⟨rfl, hb1⟩
    obtain ⟨hc1, hf1⟩ := bcell hb1
    have hs1 := hb1.size
    simp at hs1
    have p0 : w1.cell? ⟨w.heap.size + 2, 0, none⟩ = some (.int .i64 0) := by rw [hc1 _ _ (by simp)]; simp [go_sem]
    have p1 : w1.cell? ⟨w.heap.size + 2, 1, none⟩ = some (.int .i64 0) := by rw [hc1 _ _ (by simp)]; simp [go_sem]
    have p2 : ∀ o, w1.frozen? ⟨w.heap.size + 2, o, none⟩ = false := by intro o; rw [hf1 _ _ (by simp)]; simp [go_sem]
    have P0 := Lib.hid p0
    have P1 := Lib.hid p1
    have P2 := Lib.hid p2
    clear p0 p1 p2
    go_wp2_with fail
    refine (KL.out _).mono ?_
    rintro e w2 ⟨rfl, hb2⟩
    have q0 : w2.cell? ⟨w.heap.size + 2, 0, none⟩ = some (.int .i64 0) := by rw [hb2.cell (p := ⟨w.heap.size + 2, 0, none⟩) (by show w.heap.size + 2 < w1.heap.size; omega)]; exact P0.out
    have q1 : w2.cell? ⟨w.heap.size + 2, 1, none⟩ = some (.int .i64 0) := by rw [hb2.cell (p := ⟨w.heap.size + 2, 1, none⟩) (by show w.heap.size + 2 < w1.heap.size; omega)]; exact P1.out
    have q2 : ∀ o, w2.frozen? ⟨w.heap.size + 2, o, none⟩ = false := by intro o; rw [hb2.frozen (p := ⟨w.heap.size + 2, o, none⟩) (by show w.heap.size + 2 < w1.heap.size; omega)]; exact P2.out o
    clear hc1 hf1
    go_wp2_with fail
    exact bodyPost_ret (v := .tuple #[.agg #[.int .i64 P.1, .int .i64 P.2.1], .int .i64 P.2.2]) (by simp [results, Try.results25, go_sem, q0, q1]) rfl ⟨rfl, by repeat (first | exact Below.refl _ _ | assumption | refine Below.trans ?_ (hb2.mono (by first | (simp; done) | omega | (simp; omega) | (have := hb1.size; (try simp at this); omega))) | refine Below.trans ?_ (hb1.mono (by first | (simp; done) | omega | (simp; omega))) | refine Below.drew ?_ | refine below_drewN ?_ _ | refine Below.setCell ?_ (by first | (simp; done) | omega | (simp; omega)) _ | refine Below.alloc ?_ (by first | (simp; done) | omega | (simp; omega)) _)⟩
def subP (al ah bl bh : Int) : Int × Int × Int := if allV [(al, ah), (bl, bh)] = true then QM.sp (al - bh) (ah - bl) else (0, 0, 2)
set_option maxRecDepth 100000 in
set_option maxHeartbeats 1000000 in
/-- 'Sub' -/
theorem Sub_any (al ah bl bh : Int) (w : World) : Calls Try.prog 27 #[.agg #[.int .i64 al, .int .i64 ah], .agg #[.int .i64 bl, .int .i64 bh]] w fun e w' => e = .returned (.tuple #[.agg #[.int .i64 (subP al ah bl bh).1, .int .i64 (subP al ah bl bh).2.1], .int .i64 (subP al ah bl bh).2.2]) ∧ Below w.heap.size w w' := by
  cases hv : allV [(al, ah), (bl, bh)]
  · have hP : subP al ah bl bh = (0, 0, 2) := if_neg (by rw [hv]; simp)
    rw [hP]
    have HC := Lib.hid (chkL_f hv)
    clear hv hP
    go_enter Try.func27, Try.ntmps27
    go_wp2_with fail
    refine (checkSpans2 al ah bl bh _ _ _ (by first | (simp; done) | (simp [go_sem]; done) | (go_simp; done)) (by first | (simp; done) | (simp [go_sem]; done) | (go_simp; done)) (by first | (simp; done) | (simp [go_sem]; done) | (go_simp; done)) (by first | (simp; done) | (simp [go_sem]; done) | (go_simp; done)) (by first | (simp; done) | (simp [go_sem]; done) | (go_simp; done)) _ HC.out).mono ?_
    rintro e w1 ⟨rfl, hb1⟩
    obtain ⟨hc1, hf1⟩ := bcell hb1
    go_wp2_with fail
    exact bodyPost_ret (v := .tuple #[.agg #[.int .i64 0, .int .i64 0], .int .i64 2]) (by simp [results, Try.results27, go_sem, hc1]) rfl ⟨rfl, by repeat (first | exact Below.refl _ _ | assumption | refine Below.trans ?_ (hb2.mono (by first | (simp; done) | omega | (simp; omega) | (have := hb1.size; (try simp at this); omega))) | refine Below.trans ?_ (hb1.mono (by first | (simp; done) | omega | (simp; omega))) | refine Below.drew ?_ | refine below_drewN ?_ _ | refine Below.setCell ?_ (by first | (simp; done) | omega | (simp; omega)) _ | refine Below.alloc ?_ (by first | (simp; done) | omega | (simp; omega)) _)⟩
  · obtain ⟨P, hPP⟩ : ∃ P, QM.sp (al - bh) (ah - bl) = P := ⟨_, rfl⟩
    have hP : subP al ah bl bh = P := by rw [← hPP]; exact if_pos hv
    obtain ⟨⟨x1, x2, x3⟩, ⟨x4, x5, x6⟩⟩ := allV2_bd hv
    have HC := Lib.hid (chkL_t hv)
    have KL := Lib.hid (fun W => limitedSpan_any (al - bh) (ah - bl) W)
    rw [hPP] at KL
    rw [hP]
    clear hv hP hPP
    go_enter Try.func27, Try.ntmps27
    go_wp2_with fail
    refine (checkSpans2 al ah bl bh _ _ _ (by first | (simp; done) | (simp [go_sem]; done) | (go_simp; done)) (by first | (simp; done) | (simp [go_sem]; done) | (go_simp; done)) (by first | (simp; done) | (simp [go_sem]; done) | (go_simp; done)) (by first | (simp; done) | (simp [go_sem]; done) | (go_simp; done)) (by first | (simp; done) | (simp [go_sem]; done) | (go_simp; done)) _ HC.out).mono ?_
    rintro e w1 ⟨rfl, hb1⟩
    obtain ⟨hc1, hf1⟩ := bcell hb1
    have hs1 := hb1.size
    simp at hs1
    have p0 : w1.cell? ⟨w.heap.size + 2, 0, none⟩ = some (.int .i64 0) := by rw [hc1 _ _ (by simp)]; simp [go_sem]
    have p1 : w1.cell? ⟨w.heap.size + 2, 1, none⟩ = some (.int .i64 0) := by rw [hc1 _ _ (by simp)]; simp [go_sem]
    have p2 : ∀ o, w1.frozen? ⟨w.heap.size + 2, o, none⟩ = false := by intro o; rw [hf1 _ _ (by simp)]; simp [go_sem]
    have P0 := Lib.hid p0
    have P1 := Lib.hid p1
    have P2 := Lib.hid p2
    clear p0 p1 p2
    go_wp2_with fail
    refine (KL.out _).mono ?_
    rintro e w2 ⟨rfl, hb2⟩
    have q0 : w2.cell? ⟨w.heap.size + 2, 0, none⟩ = some (.int .i64 0) := by rw [hb2.cell (p := ⟨w.heap.size + 2, 0, none⟩) (by show w.heap.size + 2 < w1.heap.size; omega)]; exact P0.out
    have q1 : w2.cell? ⟨w.heap.size + 2, 1, none⟩ = some (.int .i64 0) := by rw [hb2.cell (p := ⟨w.heap.size + 2, 1, none⟩) (by show w.heap.size + 2 < w1.heap.size; omega)]; exact P1.out
    have q2 : ∀ o, w2.frozen? ⟨w.heap.size + 2, o, none⟩ = false := by intro o; rw [hb2.frozen (p := ⟨w.heap.size + 2, o, none⟩) (by show w.heap.size + 2 < w1.heap.size; omega)]; exact P2.out o
    clear hc1 hf1
    go_wp2_with fail
    exact bodyPost_ret (v := .tuple #[.agg #[.int .i64 P.1, .int .i64 P.2.1], .int .i64 P.2.2]) (by simp [results, Try.results27, go_sem, q0, q1]) rfl ⟨rfl, by repeat (first | exact Below.refl _ _ | assumption | refine Below.trans ?_ (hb2.mono (by first | (simp; done) | omega | (simp; omega) | (have := hb1.size; (try simp at this); omega))) | refine Below.trans ?_ (hb1.mono (by first | (simp; done) | omega | (simp; omega))) | refine Below.drew ?_ | refine below_drewN ?_ _ | refine Below.setCell ?_ (by first | (simp; done) | omega | (simp; omega)) _ | refine Below.alloc ?_ (by first | (simp; done) | omega | (simp; omega)) _)⟩
def hullP (al ah bl bh : Int) : Int × Int × Int := if allV [(al, ah), (bl, bh)] = true then (min al bl, max ah bh, 0) else (0, 0, 2)
set_option maxRecDepth 100000 in
set_option maxHeartbeats 1000000 in
/-- 'Hull' -/
theorem Hull_any (al ah bl bh : Int) (w : World) : Calls Try.prog 35 #[.agg #[.int .i64 al, .int .i64 ah], .agg #[.int .i64 bl, .int .i64 bh]] w fun e w' => e = .returned (.tuple #[.agg #[.int .i64 (hullP al ah bl bh).1, .int .i64 (hullP al ah bl bh).2.1], .int .i64 (hullP al ah bl bh).2.2]) ∧ Below w.heap.size w w' := by
  cases hv : allV [(al, ah), (bl, bh)]
  · have hP : hullP al ah bl bh = (0, 0, 2) := if_neg (by rw [hv]; simp)
    rw [hP]
    have HC := Lib.hid (chkL_f hv)
    clear hv hP
    go_enter Try.func35, Try.ntmps35
    go_wp2_with fail
    refine (checkSpans2 al ah bl bh _ _ _ (by first | (simp; done) | (simp [go_sem]; done) | (go_simp; done)) (by first | (simp; done) | (simp [go_sem]; done) | (go_simp; done)) (by first | (simp; done) | (simp [go_sem]; done) | (go_simp; done)) (by first | (simp; done) | (simp [go_sem]; done) | (go_simp; done)) (by first | (simp; done) | (simp [go_sem]; done) | (go_simp; done)) _ HC.out).mono ?_
    rintro e w1 ⟨rfl, hb1⟩
    obtain ⟨hc1, hf1⟩ := bcell hb1
    go_wp2_with fail
    exact bodyPost_ret (v := .tuple #[.agg #[.int .i64 0, .int .i64 0], .int .i64 2]) (by simp [results, Try.results35, go_sem, hc1]) rfl ⟨rfl, by repeat (first | exact Below.refl _ _ | assumption | refine Below.trans ?_ (hb2.mono (by first | (simp; done) | omega | (simp; omega) | (have := hb1.size; (try simp at this); omega))) | refine Below.trans ?_ (hb1.mono (by first | (simp; done) | omega | (simp; omega))) | refine Below.drew ?_ | refine below_drewN ?_ _ | refine Below.setCell ?_ (by first | (simp; done) | omega | (simp; omega)) _ | refine Below.alloc ?_ (by first | (simp; done) | omega | (simp; omega)) _)⟩
  · have hP : hullP al ah bl bh = (min al bl, max ah bh, 0) := if_pos hv
    rw [hP]
    have HC := Lib.hid (chkL_t hv)
    clear hv hP
    go_enter Try.func35, Try.ntmps35
    go_wp2_with fail
    refine (checkSpans2 al ah bl bh _ _ _ (by first | (simp; done) | (simp [go_sem]; done) | (go_simp; done)) (by first | (simp; done) | (simp [go_sem]; done) | (go_simp; done)) (by first | (simp; done) | (simp [go_sem]; done) | (go_simp; done)) (by first | (simp; done) | (simp [go_sem]; done) | (go_simp; done)) (by first | (simp; done) | (simp [go_sem]; done) | (go_simp; done)) _ HC.out).mono ?_
    rintro e w1 ⟨rfl, hb1⟩
    obtain ⟨hc1, hf1⟩ := bcell hb1
    have hs1 := hb1.size
    simp at hs1
    have p0 : w1.cell? ⟨w.heap.size + 2, 0, none⟩ = some (.int .i64 0) := by rw [hc1 _ _ (by simp)]; simp [go_sem]
    have p1 : w1.cell? ⟨w.heap.size + 2, 1, none⟩ = some (.int .i64 0) := by rw [hc1 _ _ (by simp)]; simp [go_sem]
    have p2 : ∀ o, w1.frozen? ⟨w.heap.size + 2, o, none⟩ = false := by intro o; rw [hf1 _ _ (by simp)]; simp [go_sem]
    have pn : ¬ w1.heap.size = w.heap.size + 2 := by omega
    have pm : ¬ w.heap.size + 2 = w1.heap.size := by omega
    have pl : w.heap.size + 2 < w1.heap.size := by omega
    have r0 := fun v0 v1 B => (res_cells p0 p1 v0 v1 B).1
    have r1 := fun v0 v1 B => (res_cells p0 p1 v0 v1 B).2
    have R0 := Lib.hid r0
    have R1 := Lib.hid r1
    clear r0 r1
    go_wp2_with fail
    exact bodyPost_ret (v := .tuple #[.agg #[.int .i64 (min al bl), .int .i64 (max ah bh)], .int .i64 0]) (by simp [results, Try.results35, go_sem, p0, p1]) rfl ⟨rfl, by repeat (first | exact Below.refl _ _ | assumption | refine Below.trans ?_ (hb2.mono (by first | (simp; done) | omega | (simp; omega) | (have := hb1.size; (try simp at this); omega))) | refine Below.trans ?_ (hb1.mono (by first | (simp; done) | omega | (simp; omega))) | refine Below.drew ?_ | refine below_drewN ?_ _ | refine Below.setCell ?_ (by first | (simp; done) | omega | (simp; omega)) _ | refine Below.alloc ?_ (by first | (simp; done) | omega | (simp; omega)) _)⟩
def meetP (al ah bl bh : Int) : Int × Int × Int := if allV [(al, ah), (bl, bh)] = true then (if max al bl ≤ min ah bh then (max al bl, min ah bh, 0) else (0, 0, 5)) else (0, 0, 2)
set_option maxRecDepth 100000 in
set_option maxHeartbeats 1000000 in
/-- 'Meet' -/
theorem Meet_any (al ah bl bh : Int) (w : World) : Calls Try.prog 33 #[.agg #[.int .i64 al, .int .i64 ah], .agg #[.int .i64 bl, .int .i64 bh]] w fun e w' => e = .returned (.tuple #[.agg #[.int .i64 (meetP al ah bl bh).1, .int .i64 (meetP al ah bl bh).2.1], .int .i64 (meetP al ah bl bh).2.2]) ∧ Below w.heap.size w w' := by
  cases hv : allV [(al, ah), (bl, bh)]
  · have hP : meetP al ah bl bh = (0, 0, 2) := if_neg (by rw [hv]; simp)
    rw [hP]
    have HC := Lib.hid (chkL_f hv)
    clear hv hP
    go_enter Try.func33, Try.ntmps33
    go_wp2_with fail
    refine (checkSpans2 al ah bl bh _ _ _ (by first | (simp; done) | (simp [go_sem]; done) | (go_simp; done)) (by first | (simp; done) | (simp [go_sem]; done) | (go_simp; done)) (by first | (simp; done) | (simp [go_sem]; done) | (go_simp; done)) (by first | (simp; done) | (simp [go_sem]; done) | (go_simp; done)) (by first | (simp; done) | (simp [go_sem]; done) | (go_simp; done)) _ HC.out).mono ?_
    rintro e w1 ⟨rfl, hb1⟩
    obtain ⟨hc1, hf1⟩ := bcell hb1
    go_wp2_with fail
    exact bodyPost_ret (v := .tuple #[.agg #[.int .i64 0, .int .i64 0], .int .i64 2]) (by simp [results, Try.results33, go_sem, hc1]) rfl ⟨rfl, by repeat (first | exact Below.refl _ _ | assumption | refine Below.trans ?_ (hb2.mono (by first | (simp; done) | omega | (simp; omega) | (have := hb1.size; (try simp at this); omega))) | refine Below.trans ?_ (hb1.mono (by first | (simp; done) | omega | (simp; omega))) | refine Below.drew ?_ | refine below_drewN ?_ _ | refine Below.setCell ?_ (by first | (simp; done) | omega | (simp; omega)) _ | refine Below.alloc ?_ (by first | (simp; done) | omega | (simp; omega)) _)⟩
  · by_cases hm : max al bl ≤ min ah bh
    · have hP : meetP al ah bl bh = (max al bl, min ah bh, 0) := by unfold meetP; rw [if_pos hv, if_pos hm]
      rw [hP]
      have HC := Lib.hid (chkL_t hv)
      clear hv hP
      go_enter Try.func33, Try.ntmps33
      go_wp2_with fail
      refine (checkSpans2 al ah bl bh _ _ _ (by first | (simp; done) | (simp [go_sem]; done) | (go_simp; done)) (by first | (simp; done) | (simp [go_sem]; done) | (go_simp; done)) (by first | (simp; done) | (simp [go_sem]; done) | (go_simp; done)) (by first | (simp; done) | (simp [go_sem]; done) | (go_simp; done)) (by first | (simp; done) | (simp [go_sem]; done) | (go_simp; done)) _ HC.out).mono ?_
      rintro e w1 ⟨rfl, hb1⟩
      obtain ⟨hc1, hf1⟩ := bcell hb1
      have hs1 := hb1.size
      simp at hs1
      have p0 : w1.cell? ⟨w.heap.size + 2, 0, none⟩ = some (.int .i64 0) := by rw [hc1 _ _ (by simp)]; simp [go_sem]
      have p1 : w1.cell? ⟨w.heap.size + 2, 1, none⟩ = some (.int .i64 0) := by rw [hc1 _ _ (by simp)]; simp [go_sem]
      have p2 : ∀ o, w1.frozen? ⟨w.heap.size + 2, o, none⟩ = false := by intro o; rw [hf1 _ _ (by simp)]; simp [go_sem]
      have pn : ¬ w1.heap.size = w.heap.size + 2 := by omega
      have pm : ¬ w.heap.size + 2 = w1.heap.size := by omega
      have pl : w.heap.size + 2 < w1.heap.size := by omega
      have r0 := fun v0 v1 B => (res_cells p0 p1 v0 v1 B).1
      have r1 := fun v0 v1 B => (res_cells p0 p1 v0 v1 B).2
      have R0 := Lib.hid r0
      have R1 := Lib.hid r1
      clear r0 r1
      go_wp2_with fail
      exact bodyPost_ret (v := .tuple #[.agg #[.int .i64 (max al bl), .int .i64 (min ah bh)], .int .i64 0]) (by simp [results, Try.results33, go_sem, R0.out, R1.out]) rfl ⟨rfl, by repeat (first | exact Below.refl _ _ | assumption | refine Below.trans ?_ (hb2.mono (by first | (simp; done) | omega | (simp; omega) | (have := hb1.size; (try simp at this); omega))) | refine Below.trans ?_ (hb1.mono (by first | (simp; done) | omega | (simp; omega))) | refine Below.drew ?_ | refine below_drewN ?_ _ | refine Below.setCell ?_ (by first | (simp; done) | omega | (simp; omega)) _ | refine Below.alloc ?_ (by first | (simp; done) | omega | (simp; omega)) _)⟩
    · have hP : meetP al ah bl bh = (0, 0, 5) := by unfold meetP; rw [if_pos hv, if_neg hm]
      rw [hP]
      have HC := Lib.hid (chkL_t hv)
      clear hv hP
      go_enter Try.func33, Try.ntmps33
      go_wp2_with fail
      refine (checkSpans2 al ah bl bh _ _ _ (by first | (simp; done) | (simp [go_sem]; done) | (go_simp; done)) (by first | (simp; done) | (simp [go_sem]; done) | (go_simp; done)) (by first | (simp; done) | (simp [go_sem]; done) | (go_simp; done)) (by first | (simp; done) | (simp [go_sem]; done) | (go_simp; done)) (by first | (simp; done) | (simp [go_sem]; done) | (go_simp; done)) _ HC.out).mono ?_
      rintro e w1 ⟨rfl, hb1⟩
      obtain ⟨hc1, hf1⟩ := bcell hb1
      have hs1 := hb1.size
      simp at hs1
      have p0 : w1.cell? ⟨w.heap.size + 2, 0, none⟩ = some (.int .i64 0) := by rw [hc1 _ _ (by simp)]; simp [go_sem]
      have p1 : w1.cell? ⟨w.heap.size + 2, 1, none⟩ = some (.int .i64 0) := by rw [hc1 _ _ (by simp)]; simp [go_sem]
      have p2 : ∀ o, w1.frozen? ⟨w.heap.size + 2, o, none⟩ = false := by intro o; rw [hf1 _ _ (by simp)]; simp [go_sem]
      have pn : ¬ w1.heap.size = w.heap.size + 2 := by omega
      have pm : ¬ w.heap.size + 2 = w1.heap.size := by omega
      have pl : w.heap.size + 2 < w1.heap.size := by omega
      have r0 := fun v0 v1 B => (res_cells p0 p1 v0 v1 B).1
      have r1 := fun v0 v1 B => (res_cells p0 p1 v0 v1 B).2
      have R0 := Lib.hid r0
      have R1 := Lib.hid r1
      clear r0 r1
      go_wp2_with fail
      exact bodyPost_ret (v := .tuple #[.agg #[.int .i64 (0), .int .i64 (0)], .int .i64 5]) (by simp [results, Try.results33, go_sem, R0.out, R1.out]) rfl ⟨rfl, by repeat (first | exact Below.refl _ _ | assumption | refine Below.trans ?_ (hb2.mono (by first | (simp; done) | omega | (simp; omega) | (have := hb1.size; (try simp at this); omega))) | refine Below.trans ?_ (hb1.mono (by first | (simp; done) | omega | (simp; omega))) | refine Below.drew ?_ | refine below_drewN ?_ _ | refine Below.setCell ?_ (by first | (simp; done) | omega | (simp; omega)) _ | refine Below.alloc ?_ (by first | (simp; done) | omega | (simp; omega)) _)⟩
end Go.Proofs.Ytlaalhbicblbeaa
