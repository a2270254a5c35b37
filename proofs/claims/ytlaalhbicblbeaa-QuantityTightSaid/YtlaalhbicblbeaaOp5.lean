/- The contract of Div. -/
import Derived.Test.YtlaalhbicblbeaaOp3
import Derived.RegionTactic
import Derived.BigRegion
namespace Go.Proofs.Ytlaalhbicblbeaa
open Go.RowKit
theorem keep_drew {w : World} {q : Addr} {x : Value} (h : w.cell? q = some x) : w.drew.cell? q = some x := h
theorem two_set0 {w : World} {g : Nat} {x0 : Value} (p0 : w.cell? ⟨g, 0, none⟩ = some x0) (v0 v1 : Value) : ((w.setCell ⟨g, 0, none⟩ v0).setCell ⟨g, 1, none⟩ v1).cell? ⟨g, 0, none⟩ = some v0 := by
  have : ((w.setCell ⟨g, 0, none⟩ v0).setCell ⟨g, 1, none⟩ v1).cell? ⟨g, 0, none⟩ = (w.setCell ⟨g, 0, none⟩ v0).cell? ⟨g, 0, none⟩ := by
    apply World.cell?_setCell_other
    simp
  rw [this]
  exact World.cell?_setCell_same' _ _ _ (by rw [p0]; rfl)
def divQ (al ah bl bh n : Int) : Int × Int × Int := QM.sp (loF (QM.vF al n bl) [(al, n, bh), (ah, n, bl), (ah, n, bh)]) (hiF (QM.vC al n bl) [(al, n, bh), (ah, n, bl), (ah, n, bh)])
def divP (al ah bl bh n : Int) : Int × Int × Int := if allV [(al, ah), (bl, bh)] = true ∧ QM.isQ n = true then (if (decide (bl ≤ 0) && decide (0 ≤ bh)) = true then (0, 0, 9) else if bh < 0 then divQ (-ah) (-al) (-bh) (-bl) n else divQ al ah bl bh n) else (0, 0, 2)
set_option maxRecDepth 100000 in
set_option maxHeartbeats 4000000 in
/-- 'Div' -/
theorem Div_any (al ah bl bh n : Int) (w : World) : Calls Try.prog 31 #[.agg #[.int .i64 al, .int .i64 ah], .agg #[.int .i64 bl, .int .i64 bh], .int .i64 n] w fun e w' => e = .returned (.tuple #[.agg #[.int .i64 (divP al ah bl bh n).1, .int .i64 (divP al ah bl bh n).2.1], .int .i64 (divP al ah bl bh n).2.2]) ∧ Below w.heap.size w w' := by
  cases hv : allV [(al, ah), (bl, bh)]
  · have hP : divP al ah bl bh n = (0, 0, 2) := if_neg (by rw [hv]; simp)
    rw [hP]
    have HC := Lib.hid (chkL_f hv)
    clear hv hP
    go_enter Try.func31, Try.ntmps31
    go_wp2_with fail
    refine (checkSpans2 al ah bl bh _ _ _ (by first | (simp; done) | (simp [go_sem]; done) | (go_simp; done)) (by first | (simp; done) | (simp [go_sem]; done) | (go_simp; done)) (by first | (simp; done) | (simp [go_sem]; done) | (go_simp; done)) (by first | (simp; done) | (simp [go_sem]; done) | (go_simp; done)) (by first | (simp; done) | (simp [go_sem]; done) | (go_simp; done)) _ HC.out).mono ?_
    rintro e w1 ⟨rfl, hb1⟩
    obtain ⟨hc1, hf1⟩ := bcell hb1
    have hs1 := hb1.size
    simp at hs1
    go_wp2_with fail
    exact bodyPost_ret (v := .tuple #[.agg #[.int .i64 0, .int .i64 0], .int .i64 2]) (by simp [results, Try.results31, go_sem, hc1]) rfl ⟨rfl, by repeat (first | exact Below.refl _ _ | assumption | refine Below.trans ?_ (hb2.mono (by first | (simp; done) | omega | (simp; omega) | (have := hb1.size; (try simp at this); omega))) | refine Below.trans ?_ (hb1.mono (by first | (simp; done) | omega | (simp; omega))) | refine Below.drew ?_ | refine below_drewN ?_ _ | refine Below.setCell ?_ (by first | (simp; done) | omega | (simp; omega)) _ | refine Below.alloc ?_ (by first | (simp; done) | omega | (simp; omega)) _)⟩
  · cases h2 : QM.isQ n
    · have hP : divP al ah bl bh n = (0, 0, 2) := if_neg (by rw [h2]; simp)
      rw [hP]
      have HC := Lib.hid (chkL_t hv)
      have H2 := Lib.hid h2
      clear hv hP h2
      go_enter Try.func31, Try.ntmps31
      go_wp2_with fail
      refine (checkSpans2 al ah bl bh _ _ _ (by first | (simp; done) | (simp [go_sem]; done) | (go_simp; done)) (by first | (simp; done) | (simp [go_sem]; done) | (go_simp; done)) (by first | (simp; done) | (simp [go_sem]; done) | (go_simp; done)) (by first | (simp; done) | (simp [go_sem]; done) | (go_simp; done)) (by first | (simp; done) | (simp [go_sem]; done) | (go_simp; done)) _ HC.out).mono ?_
      rintro e w1 ⟨rfl, hb1⟩
      obtain ⟨hc1, hf1⟩ := bcell hb1
      have hs1 := hb1.size
      simp at hs1
      go_wp2_with (go_at_call 85; refine (isQ_eq _ _ _ H2.out).mono ?_; rintro e w' ⟨rfl, rfl⟩)
      exact bodyPost_ret (v := .tuple #[.agg #[.int .i64 0, .int .i64 0], .int .i64 2]) (by simp [results, Try.results31, go_sem, hc1]) rfl ⟨rfl, by repeat (first | exact Below.refl _ _ | assumption | refine Below.trans ?_ (hb2.mono (by first | (simp; done) | omega | (simp; omega) | (have := hb1.size; (try simp at this); omega))) | refine Below.trans ?_ (hb1.mono (by first | (simp; done) | omega | (simp; omega))) | refine Below.drew ?_ | refine below_drewN ?_ _ | refine Below.setCell ?_ (by first | (simp; done) | omega | (simp; omega)) _ | refine Below.alloc ?_ (by first | (simp; done) | omega | (simp; omega)) _)⟩
    · obtain ⟨⟨x1, x2, x3⟩, ⟨x4, x5, x6⟩⟩ := allV2_bd hv
      obtain ⟨y1, y2⟩ := QM.isQ_bd h2
      have HC := Lib.hid (chkL_t hv)
      have H2 := Lib.hid h2
      cases hk : (decide (bl ≤ 0) && decide (0 ≤ bh))
      · have hk' : ¬ (bl ≤ 0 ∧ 0 ≤ bh) := by simpa using hk
        have HK := Lib.hid hk
        by_cases hn : bh < 0
        · have hP : divP al ah bl bh n = divQ (-ah) (-al) (-bh) (-bl) n := by unfold divP; rw [if_pos ⟨hv, h2⟩, hk, if_neg (by simp), if_pos hn]
          obtain ⟨P, hPP⟩ : ∃ P, divQ (-ah) (-al) (-bh) (-bl) n = P := ⟨_, rfl⟩
          rw [hP, hPP]
          have HP := Lib.hid hPP
          have R1 : RatOk (-ah, n, -bh) := ratOk_of (by omega) (by omega) (by omega) (by omega) (by omega) (by omega)
          have R2 : RatOk (-ah, n, -bl) := ratOk_of (by omega) (by omega) (by omega) (by omega) (by omega) (by omega)
          have R3 : RatOk (-al, n, -bh) := ratOk_of (by omega) (by omega) (by omega) (by omega) (by omega) (by omega)
          have R4 : RatOk (-al, n, -bl) := ratOk_of (by omega) (by omega) (by omega) (by omega) (by omega) (by omega)
          have HR := Lib.hid (And.intro R1 (And.intro R2 (And.intro R3 R4)))
          clear hv h2 hk hk' hP hPP R1 R2 R3 R4
          go_enter Try.func31, Try.ntmps31
          go_wp2_with fail
          refine (checkSpans2 al ah bl bh _ _ _ (by first | (simp; done) | (simp [go_sem]; done) | (go_simp; done)) (by first | (simp; done) | (simp [go_sem]; done) | (go_simp; done)) (by first | (simp; done) | (simp [go_sem]; done) | (go_simp; done)) (by first | (simp; done) | (simp [go_sem]; done) | (go_simp; done)) (by first | (simp; done) | (simp [go_sem]; done) | (go_simp; done)) _ HC.out).mono ?_
          rintro e w1 ⟨rfl, hb1⟩
          obtain ⟨hc1, hf1⟩ := bcell hb1
          have hs1 := hb1.size
          simp at hs1
          have p0 : w1.cell? ⟨w.heap.size + 2, 0, none⟩ = some (.int .i64 0) := by rw [hc1 _ _ (by simp)]; simp [go_sem]
          have p1 : w1.cell? ⟨w.heap.size + 2, 1, none⟩ = some (.int .i64 0) := by rw [hc1 _ _ (by simp)]; simp [go_sem]
          have p2 : ∀ o, w1.frozen? ⟨w.heap.size + 2, o, none⟩ = false := by intro o; rw [hf1 _ _ (by simp)]; simp [go_sem]
          have a0 : w1.cell? ⟨w.heap.size, 0, none⟩ = some (.int .i64 al) := by rw [hc1 _ _ (by simp; try omega)]; simp [go_sem]
          have a1 : w1.cell? ⟨w.heap.size, 1, none⟩ = some (.int .i64 ah) := by rw [hc1 _ _ (by simp; try omega)]; simp [go_sem]
          have b0 : w1.cell? ⟨w.heap.size + 1, 0, none⟩ = some (.int .i64 bl) := by rw [hc1 _ _ (by simp; try omega)]; simp [go_sem]
          have b1 : w1.cell? ⟨w.heap.size + 1, 1, none⟩ = some (.int .i64 bh) := by rw [hc1 _ _ (by simp; try omega)]; simp [go_sem]
          have f0 : ∀ o, w1.frozen? ⟨w.heap.size, o, none⟩ = false := by intro o; rw [hf1 _ _ (by simp; try omega)]; simp [go_sem]
          have f1 : ∀ o, w1.frozen? ⟨w.heap.size + 1, o, none⟩ = false := by intro o; rw [hf1 _ _ (by simp; try omega)]; simp [go_sem]
          clear hc1 hf1
          go_wp2_with (go_at_call 85; refine (isQ_eq _ _ _ H2.out).mono ?_; rintro e w' ⟨rfl, rfl⟩)
          refine (contains_e bl bh 0 _ HK.out _).mono ?_
          rintro e w2 ⟨rfl, hb2⟩
          have hs2 : w1.heap.size ≤ w2.heap.size := hb2.size
          have p0 : w2.cell? ⟨w.heap.size + 2, 0, none⟩ = some (.int .i64 0) := (hb2.cell (p := ⟨w.heap.size + 2, 0, none⟩) (by show w.heap.size + 2 < w1.heap.size; omega)).trans p0
          have p1 : w2.cell? ⟨w.heap.size + 2, 1, none⟩ = some (.int .i64 0) := (hb2.cell (p := ⟨w.heap.size + 2, 1, none⟩) (by show w.heap.size + 2 < w1.heap.size; omega)).trans p1
          have p2 : ∀ o, w2.frozen? ⟨w.heap.size + 2, o, none⟩ = false := fun o => (hb2.frozen (p := ⟨w.heap.size + 2, o, none⟩) (by show w.heap.size + 2 < w1.heap.size; omega)).trans (p2 o)
          have a0 : w2.cell? ⟨w.heap.size, 0, none⟩ = some (.int .i64 al) := (hb2.cell (p := ⟨w.heap.size, 0, none⟩) (by show w.heap.size < w1.heap.size; omega)).trans a0
          have a1 : w2.cell? ⟨w.heap.size, 1, none⟩ = some (.int .i64 ah) := (hb2.cell (p := ⟨w.heap.size, 1, none⟩) (by show w.heap.size < w1.heap.size; omega)).trans a1
          have b0 : w2.cell? ⟨w.heap.size + 1, 0, none⟩ = some (.int .i64 bl) := (hb2.cell (p := ⟨w.heap.size + 1, 0, none⟩) (by show w.heap.size + 1 < w1.heap.size; omega)).trans b0
          have b1 : w2.cell? ⟨w.heap.size + 1, 1, none⟩ = some (.int .i64 bh) := (hb2.cell (p := ⟨w.heap.size + 1, 1, none⟩) (by show w.heap.size + 1 < w1.heap.size; omega)).trans b1
          have f0 : ∀ o, w2.frozen? ⟨w.heap.size, o, none⟩ = false := fun o => (hb2.frozen (p := ⟨w.heap.size, o, none⟩) (by show w.heap.size < w1.heap.size; omega)).trans (f0 o)
          have f1 : ∀ o, w2.frozen? ⟨w.heap.size + 1, o, none⟩ = false := fun o => (hb2.frozen (p := ⟨w.heap.size + 1, o, none⟩) (by show w.heap.size + 1 < w1.heap.size; omega)).trans (f1 o)
          go_upto_region 6 with fail
          go_cut [] (fun wx => wx.cell? ⟨w.heap.size, 0, none⟩ = some (.int .i64 (-ah)) ∧ wx.cell? ⟨w.heap.size, 1, none⟩ = some (.int .i64 (-al)) ∧ wx.cell? ⟨w.heap.size + 1, 0, none⟩ = some (.int .i64 (-bh)) ∧ wx.cell? ⟨w.heap.size + 1, 1, none⟩ = some (.int .i64 (-bl)) ∧ wx.cell? ⟨w.heap.size + 2, 0, none⟩ = some (.int .i64 0) ∧ wx.cell? ⟨w.heap.size + 2, 1, none⟩ = some (.int .i64 0) ∧ (∀ o, wx.frozen? ⟨w.heap.size + 2, o, none⟩ = false) ∧ w2.heap.size ≤ wx.heap.size ∧ Below w.heap.size w wx)
          case first =>
            go_region
            all_goals (go_wp2_with fail)
            all_goals go_meet
            all_goals exact ⟨keep_drew (keep_set (by show _ ≠ _; simp) (keep_set (by show _ ≠ _; simp) (two_set0 a0 _ _))), keep_drew (keep_set (by show _ ≠ _; simp) (keep_set (by show _ ≠ _; simp) (set_set a1))), keep_drew (two_set0 (keep_set (by show _ ≠ _; simp) (keep_set (by show _ ≠ _; simp) b0)) _ _), keep_drew (set_set (keep_set (by show _ ≠ _; simp) (keep_set (by show _ ≠ _; simp) b1))), keep_drew (keep_set (by show _ ≠ _; simp) (keep_set (by show _ ≠ _; simp) (keep_set (by show _ ≠ _; simp) (keep_set (by show _ ≠ _; simp) p0)))), keep_drew (keep_set (by show _ ≠ _; simp) (keep_set (by show _ ≠ _; simp) (keep_set (by show _ ≠ _; simp) (keep_set (by show _ ≠ _; simp) p1)))), fun o => by simp [p2], by simp, by repeat (first | exact Below.refl _ _ | refine Below.drew ?_ | refine Below.setCell ?_ (by first | (simp; done) | omega | (simp; omega)) _ | refine Below.trans ?_ (hb2.mono (by first | (simp; done) | omega | (simp; omega))) | refine Below.trans ?_ (hb1.mono (by first | (simp; done) | omega | (simp; omega))) | refine Below.alloc ?_ (by first | (simp; done) | omega | (simp; omega)) _)⟩
          case rest =>
            clear p0 p1 p2 a0 a1 b0 b1 f0 f1
            obtain ⟨a0, a1, b0, b1, p0, p1, p2, hs3, hB⟩ := hcut
            have P0 := Lib.hid p0
            have P1 := Lib.hid p1
            have P2 := Lib.hid p2
            clear p0 p1 p2
            go_wp2_with fail
            refine (spanOf3 (-ah, n, -bh) (-ah, n, -bl) (-al, n, -bh) (-al, n, -bl) _ _ _ HR.out.1 HR.out.2.1 HR.out.2.2.1 HR.out.2.2.2 (by first | (simp; done) | (simp [go_sem]; done) | (go_simp; done)) (by first | (simp; done) | (simp [go_sem]; done) | (go_simp; done)) (by first | (simp; done) | (simp [go_sem]; done) | (go_simp; done)) (by first | (simp; done) | (simp [go_sem]; done) | (go_simp; done)) (by first | (simp; done) | (simp [go_sem]; done) | (go_simp; done)) (by first | (simp; done) | (simp [go_sem]; done) | (go_simp; done)) (by first | (simp; done) | (simp [go_sem]; done) | (go_simp; done)) (by first | (simp; done) | (simp [go_sem]; done) | (go_simp; done)) (by first | (simp; done) | (simp [go_sem]; done) | (go_simp; done)) (by first | (simp; done) | (simp [go_sem]; done) | (go_simp; done)) P HP.out).mono ?_
            rintro e w5 ⟨rfl, hb3⟩
            have q0 : w5.cell? ⟨w.heap.size + 2, 0, none⟩ = some (.int .i64 0) := by rw [hb3.cell (p := ⟨w.heap.size + 2, 0, none⟩) (by simp; omega)]; exact keep_alloc P0.out
            have q1 : w5.cell? ⟨w.heap.size + 2, 1, none⟩ = some (.int .i64 0) := by rw [hb3.cell (p := ⟨w.heap.size + 2, 1, none⟩) (by simp; omega)]; exact keep_alloc P1.out
            have q2 : ∀ o, w5.frozen? ⟨w.heap.size + 2, o, none⟩ = false := by
              intro o
              rw [hb3.frozen (p := ⟨w.heap.size + 2, o, none⟩) (by simp; omega), World.frozen?_alloc_past _ _ _ (by omega)]
              exact P2.out o
            clear a0 a1 b0 b1
            go_wp2_with fail
            exact bodyPost_ret (v := .tuple #[.agg #[.int .i64 P.1, .int .i64 P.2.1], .int .i64 P.2.2]) (by simp [results, Try.results31, go_sem, q0, q1]) rfl ⟨rfl, by repeat (first | exact Below.refl _ _ | refine Below.trans ?_ (hb3.mono (by first | (simp; done) | omega | (simp; omega))) | refine Below.trans ?_ (hb2.mono (by first | (simp; done) | omega | (simp; omega))) | exact hB | refine Below.trans ?_ (hb1.mono (by first | (simp; done) | omega | (simp; omega))) | refine Below.drew ?_ | refine Below.setCell ?_ (by first | (simp; done) | omega | (simp; omega)) _ | refine Below.alloc ?_ (by first | (simp; done) | omega | (simp; omega)) _)⟩
        · have hP : divP al ah bl bh n = divQ al ah bl bh n := by unfold divP; rw [if_pos ⟨hv, h2⟩, hk, if_neg (by simp), if_neg hn]
          obtain ⟨P, hPP⟩ : ∃ P, divQ al ah bl bh n = P := ⟨_, rfl⟩
          rw [hP, hPP]
          have HP := Lib.hid hPP
          have R1 : RatOk (al, n, bl) := ratOk_of (by omega) (by omega) (by omega) (by omega) (by omega) (by omega)
          have R2 : RatOk (al, n, bh) := ratOk_of (by omega) (by omega) (by omega) (by omega) (by omega) (by omega)
          have R3 : RatOk (ah, n, bl) := ratOk_of (by omega) (by omega) (by omega) (by omega) (by omega) (by omega)
          have R4 : RatOk (ah, n, bh) := ratOk_of (by omega) (by omega) (by omega) (by omega) (by omega) (by omega)
          have HR := Lib.hid (And.intro R1 (And.intro R2 (And.intro R3 R4)))
          clear hv h2 hk hk' hP hPP R1 R2 R3 R4
          go_enter Try.func31, Try.ntmps31
          go_wp2_with fail
          refine (checkSpans2 al ah bl bh _ _ _ (by first | (simp; done) | (simp [go_sem]; done) | (go_simp; done)) (by first | (simp; done) | (simp [go_sem]; done) | (go_simp; done)) (by first | (simp; done) | (simp [go_sem]; done) | (go_simp; done)) (by first | (simp; done) | (simp [go_sem]; done) | (go_simp; done)) (by first | (simp; done) | (simp [go_sem]; done) | (go_simp; done)) _ HC.out).mono ?_
          rintro e w1 ⟨rfl, hb1⟩
          obtain ⟨hc1, hf1⟩ := bcell hb1
          have hs1 := hb1.size
          simp at hs1
          have p0 : w1.cell? ⟨w.heap.size + 2, 0, none⟩ = some (.int .i64 0) := by rw [hc1 _ _ (by simp)]; simp [go_sem]
          have p1 : w1.cell? ⟨w.heap.size + 2, 1, none⟩ = some (.int .i64 0) := by rw [hc1 _ _ (by simp)]; simp [go_sem]
          have p2 : ∀ o, w1.frozen? ⟨w.heap.size + 2, o, none⟩ = false := by intro o; rw [hf1 _ _ (by simp)]; simp [go_sem]
          have a0 : w1.cell? ⟨w.heap.size, 0, none⟩ = some (.int .i64 al) := by rw [hc1 _ _ (by simp; try omega)]; simp [go_sem]
          have a1 : w1.cell? ⟨w.heap.size, 1, none⟩ = some (.int .i64 ah) := by rw [hc1 _ _ (by simp; try omega)]; simp [go_sem]
          have b0 : w1.cell? ⟨w.heap.size + 1, 0, none⟩ = some (.int .i64 bl) := by rw [hc1 _ _ (by simp; try omega)]; simp [go_sem]
          have b1 : w1.cell? ⟨w.heap.size + 1, 1, none⟩ = some (.int .i64 bh) := by rw [hc1 _ _ (by simp; try omega)]; simp [go_sem]
          have f0 : ∀ o, w1.frozen? ⟨w.heap.size, o, none⟩ = false := by intro o; rw [hf1 _ _ (by simp; try omega)]; simp [go_sem]
          have f1 : ∀ o, w1.frozen? ⟨w.heap.size + 1, o, none⟩ = false := by intro o; rw [hf1 _ _ (by simp; try omega)]; simp [go_sem]
          clear hc1 hf1
          go_wp2_with (go_at_call 85; refine (isQ_eq _ _ _ H2.out).mono ?_; rintro e w' ⟨rfl, rfl⟩)
          refine (contains_e bl bh 0 _ HK.out _).mono ?_
          rintro e w2 ⟨rfl, hb2⟩
          have hs2 : w1.heap.size ≤ w2.heap.size := hb2.size
          have p0 : w2.cell? ⟨w.heap.size + 2, 0, none⟩ = some (.int .i64 0) := (hb2.cell (p := ⟨w.heap.size + 2, 0, none⟩) (by show w.heap.size + 2 < w1.heap.size; omega)).trans p0
          have p1 : w2.cell? ⟨w.heap.size + 2, 1, none⟩ = some (.int .i64 0) := (hb2.cell (p := ⟨w.heap.size + 2, 1, none⟩) (by show w.heap.size + 2 < w1.heap.size; omega)).trans p1
          have p2 : ∀ o, w2.frozen? ⟨w.heap.size + 2, o, none⟩ = false := fun o => (hb2.frozen (p := ⟨w.heap.size + 2, o, none⟩) (by show w.heap.size + 2 < w1.heap.size; omega)).trans (p2 o)
          have a0 : w2.cell? ⟨w.heap.size, 0, none⟩ = some (.int .i64 al) := (hb2.cell (p := ⟨w.heap.size, 0, none⟩) (by show w.heap.size < w1.heap.size; omega)).trans a0
          have a1 : w2.cell? ⟨w.heap.size, 1, none⟩ = some (.int .i64 ah) := (hb2.cell (p := ⟨w.heap.size, 1, none⟩) (by show w.heap.size < w1.heap.size; omega)).trans a1
          have b0 : w2.cell? ⟨w.heap.size + 1, 0, none⟩ = some (.int .i64 bl) := (hb2.cell (p := ⟨w.heap.size + 1, 0, none⟩) (by show w.heap.size + 1 < w1.heap.size; omega)).trans b0
          have b1 : w2.cell? ⟨w.heap.size + 1, 1, none⟩ = some (.int .i64 bh) := (hb2.cell (p := ⟨w.heap.size + 1, 1, none⟩) (by show w.heap.size + 1 < w1.heap.size; omega)).trans b1
          have f0 : ∀ o, w2.frozen? ⟨w.heap.size, o, none⟩ = false := fun o => (hb2.frozen (p := ⟨w.heap.size, o, none⟩) (by show w.heap.size < w1.heap.size; omega)).trans (f0 o)
          have f1 : ∀ o, w2.frozen? ⟨w.heap.size + 1, o, none⟩ = false := fun o => (hb2.frozen (p := ⟨w.heap.size + 1, o, none⟩) (by show w.heap.size + 1 < w1.heap.size; omega)).trans (f1 o)
          have P0 := Lib.hid p0
          have P1 := Lib.hid p1
          have P2 := Lib.hid p2
          clear p0 p1 p2
          go_wp2_with fail
          refine (spanOf3 (al, n, bl) (al, n, bh) (ah, n, bl) (ah, n, bh) _ _ _ HR.out.1 HR.out.2.1 HR.out.2.2.1 HR.out.2.2.2 (by first | (simp; done) | (simp [go_sem]; done) | (go_simp; done)) (by first | (simp; done) | (simp [go_sem]; done) | (go_simp; done)) (by first | (simp; done) | (simp [go_sem]; done) | (go_simp; done)) (by first | (simp; done) | (simp [go_sem]; done) | (go_simp; done)) (by first | (simp; done) | (simp [go_sem]; done) | (go_simp; done)) (by first | (simp; done) | (simp [go_sem]; done) | (go_simp; done)) (by first | (simp; done) | (simp [go_sem]; done) | (go_simp; done)) (by first | (simp; done) | (simp [go_sem]; done) | (go_simp; done)) (by first | (simp; done) | (simp [go_sem]; done) | (go_simp; done)) (by first | (simp; done) | (simp [go_sem]; done) | (go_simp; done)) P HP.out).mono ?_
          rintro e w5 ⟨rfl, hb3⟩
          have q0 : w5.cell? ⟨w.heap.size + 2, 0, none⟩ = some (.int .i64 0) := by rw [hb3.cell (p := ⟨w.heap.size + 2, 0, none⟩) (by simp; omega)]; exact keep_alloc P0.out
          have q1 : w5.cell? ⟨w.heap.size + 2, 1, none⟩ = some (.int .i64 0) := by rw [hb3.cell (p := ⟨w.heap.size + 2, 1, none⟩) (by simp; omega)]; exact keep_alloc P1.out
          have q2 : ∀ o, w5.frozen? ⟨w.heap.size + 2, o, none⟩ = false := by
            intro o
            rw [hb3.frozen (p := ⟨w.heap.size + 2, o, none⟩) (by simp; omega), World.frozen?_alloc_past _ _ _ (by omega)]
            exact P2.out o
          clear a0 a1 b0 b1 f0 f1
          go_wp2_with fail
          exact bodyPost_ret (v := .tuple #[.agg #[.int .i64 P.1, .int .i64 P.2.1], .int .i64 P.2.2]) (by simp [results, Try.results31, go_sem, q0, q1]) rfl ⟨rfl, by repeat (first | exact Below.refl _ _ | refine Below.trans ?_ (hb3.mono (by first | (simp; done) | omega | (simp; omega))) | refine Below.trans ?_ (hb2.mono (by first | (simp; done) | omega | (simp; omega))) | exact hB | refine Below.trans ?_ (hb1.mono (by first | (simp; done) | omega | (simp; omega))) | refine Below.drew ?_ | refine Below.setCell ?_ (by first | (simp; done) | omega | (simp; omega)) _ | refine Below.alloc ?_ (by first | (simp; done) | omega | (simp; omega)) _)⟩
      · have hP : divP al ah bl bh n = (0, 0, 9) := by unfold divP; rw [if_pos ⟨hv, h2⟩, hk, if_pos rfl]
        rw [hP]
        have HK := Lib.hid hk
        clear hv h2 hk hP
        go_enter Try.func31, Try.ntmps31
        go_wp2_with fail
        refine (checkSpans2 al ah bl bh _ _ _ (by first | (simp; done) | (simp [go_sem]; done) | (go_simp; done)) (by first | (simp; done) | (simp [go_sem]; done) | (go_simp; done)) (by first | (simp; done) | (simp [go_sem]; done) | (go_simp; done)) (by first | (simp; done) | (simp [go_sem]; done) | (go_simp; done)) (by first | (simp; done) | (simp [go_sem]; done) | (go_simp; done)) _ HC.out).mono ?_
        rintro e w1 ⟨rfl, hb1⟩
        obtain ⟨hc1, hf1⟩ := bcell hb1
        have hs1 := hb1.size
        simp at hs1
        have p0 : w1.cell? ⟨w.heap.size + 2, 0, none⟩ = some (.int .i64 0) := by rw [hc1 _ _ (by simp)]; simp [go_sem]
        have p1 : w1.cell? ⟨w.heap.size + 2, 1, none⟩ = some (.int .i64 0) := by rw [hc1 _ _ (by simp)]; simp [go_sem]
        have p2 : ∀ o, w1.frozen? ⟨w.heap.size + 2, o, none⟩ = false := by intro o; rw [hf1 _ _ (by simp)]; simp [go_sem]
        have a0 : w1.cell? ⟨w.heap.size, 0, none⟩ = some (.int .i64 al) := by rw [hc1 _ _ (by simp; try omega)]; simp [go_sem]
        have a1 : w1.cell? ⟨w.heap.size, 1, none⟩ = some (.int .i64 ah) := by rw [hc1 _ _ (by simp; try omega)]; simp [go_sem]
        have b0 : w1.cell? ⟨w.heap.size + 1, 0, none⟩ = some (.int .i64 bl) := by rw [hc1 _ _ (by simp; try omega)]; simp [go_sem]
        have b1 : w1.cell? ⟨w.heap.size + 1, 1, none⟩ = some (.int .i64 bh) := by rw [hc1 _ _ (by simp; try omega)]; simp [go_sem]
        have f0 : ∀ o, w1.frozen? ⟨w.heap.size, o, none⟩ = false := by intro o; rw [hf1 _ _ (by simp; try omega)]; simp [go_sem]
        have f1 : ∀ o, w1.frozen? ⟨w.heap.size + 1, o, none⟩ = false := by intro o; rw [hf1 _ _ (by simp; try omega)]; simp [go_sem]
        clear hc1 hf1
        go_wp2_with (go_at_call 85; refine (isQ_eq _ _ _ H2.out).mono ?_; rintro e w' ⟨rfl, rfl⟩)
        refine (contains_e bl bh 0 _ HK.out _).mono ?_
        rintro e w2 ⟨rfl, hb2⟩
        have hs2 : w1.heap.size ≤ w2.heap.size := hb2.size
        have p0 : w2.cell? ⟨w.heap.size + 2, 0, none⟩ = some (.int .i64 0) := (hb2.cell (p := ⟨w.heap.size + 2, 0, none⟩) (by show w.heap.size + 2 < w1.heap.size; omega)).trans p0
        have p1 : w2.cell? ⟨w.heap.size + 2, 1, none⟩ = some (.int .i64 0) := (hb2.cell (p := ⟨w.heap.size + 2, 1, none⟩) (by show w.heap.size + 2 < w1.heap.size; omega)).trans p1
        have p2 : ∀ o, w2.frozen? ⟨w.heap.size + 2, o, none⟩ = false := fun o => (hb2.frozen (p := ⟨w.heap.size + 2, o, none⟩) (by show w.heap.size + 2 < w1.heap.size; omega)).trans (p2 o)
        have a0 : w2.cell? ⟨w.heap.size, 0, none⟩ = some (.int .i64 al) := (hb2.cell (p := ⟨w.heap.size, 0, none⟩) (by show w.heap.size < w1.heap.size; omega)).trans a0
        have a1 : w2.cell? ⟨w.heap.size, 1, none⟩ = some (.int .i64 ah) := (hb2.cell (p := ⟨w.heap.size, 1, none⟩) (by show w.heap.size < w1.heap.size; omega)).trans a1
        have b0 : w2.cell? ⟨w.heap.size + 1, 0, none⟩ = some (.int .i64 bl) := (hb2.cell (p := ⟨w.heap.size + 1, 0, none⟩) (by show w.heap.size + 1 < w1.heap.size; omega)).trans b0
        have b1 : w2.cell? ⟨w.heap.size + 1, 1, none⟩ = some (.int .i64 bh) := (hb2.cell (p := ⟨w.heap.size + 1, 1, none⟩) (by show w.heap.size + 1 < w1.heap.size; omega)).trans b1
        have f0 : ∀ o, w2.frozen? ⟨w.heap.size, o, none⟩ = false := fun o => (hb2.frozen (p := ⟨w.heap.size, o, none⟩) (by show w.heap.size < w1.heap.size; omega)).trans (f0 o)
        have f1 : ∀ o, w2.frozen? ⟨w.heap.size + 1, o, none⟩ = false := fun o => (hb2.frozen (p := ⟨w.heap.size + 1, o, none⟩) (by show w.heap.size + 1 < w1.heap.size; omega)).trans (f1 o)
        go_wp2_with fail
        exact bodyPost_ret (v := .tuple #[.agg #[.int .i64 0, .int .i64 0], .int .i64 9]) (by simp [results, Try.results31, go_sem, p0, p1]) rfl ⟨rfl, by repeat (first | exact Below.refl _ _ | assumption | refine Below.trans ?_ (hb2.mono (by first | (simp; done) | omega | (simp; omega) | (have := hb1.size; (try simp at this); omega))) | refine Below.trans ?_ (hb1.mono (by first | (simp; done) | omega | (simp; omega))) | refine Below.drew ?_ | refine below_drewN ?_ _ | refine Below.setCell ?_ (by first | (simp; done) | omega | (simp; omega)) _ | refine Below.alloc ?_ (by first | (simp; done) | omega | (simp; omega)) _)⟩
end Go.Proofs.Ytlaalhbicblbeaa
