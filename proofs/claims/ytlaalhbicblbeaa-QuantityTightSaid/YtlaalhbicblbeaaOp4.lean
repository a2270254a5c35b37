/- The contract of Square. -/
import Derived.Test.YtlaalhbicblbeaaOp3
import Derived.RegionTactic
import Derived.BigRegion
namespace Go.Proofs.Ytlaalhbicblbeaa
open Go.RowKit
theorem spanOf2 (f p q : Rat3) (b cap : Nat) (W : World) (hf : RatOk f) (hp : RatOk p) (hq : RatOk q)
    (h0 : W.cell? ⟨b, 0, none⟩ = some (.int .i64 p.1)) (h1 : W.cell? ⟨b, 1, none⟩ = some (.int .i64 p.2.1)) (h2 : W.cell? ⟨b, 2, none⟩ = some (.int .i64 p.2.2))
    (h3 : W.cell? ⟨b, 3, none⟩ = some (.int .i64 q.1)) (h4 : W.cell? ⟨b, 4, none⟩ = some (.int .i64 q.2.1)) (h5 : W.cell? ⟨b, 5, none⟩ = some (.int .i64 q.2.2)) (hb : b < W.heap.size)
    (P : Int × Int × Int) (hP : QM.sp (loF (QM.vF f.1 f.2.1 f.2.2) [p, q]) (hiF (QM.vC f.1 f.2.1 f.2.2) [p, q]) = P) :
    Calls Try.prog 106 #[.agg #[.int .i64 f.1, .int .i64 f.2.1, .int .i64 f.2.2], .slice (some ⟨b, 0, none⟩) 2 cap] W fun e w' => e = .returned (.tuple #[.agg #[.int .i64 P.1, .int .i64 P.2.1], .int .i64 P.2.2]) ∧ Below W.heap.size W w' := by
  rw [← hP]
  refine spanOf_any f.1 f.2.1 f.2.2 [p, q] b 0 cap W hf ?_ ?_ hb (by simp)
  · intro i hi
    simp only [List.length_cons, List.length_nil] at hi
    match i, hi with
    | 0, _ => exact ⟨h0, h1, h2⟩
    | 1, _ => exact ⟨h3, h4, h5⟩
  · intro x hx
    simp only [List.mem_cons, List.not_mem_nil, or_false] at hx
    rcases hx with rfl | rfl
    · exact hp
    · exact hq
/-- a ratio in memory -/
def RatAt (w : World) (g : Nat) (a b d : Int) : Prop := g < w.heap.size ∧ w.cell? ⟨g, 0, none⟩ = some (.int .i64 a) ∧ w.cell? ⟨g, 1, none⟩ = some (.int .i64 b) ∧ w.cell? ⟨g, 2, none⟩ = some (.int .i64 d)
theorem RatAt.keep {w w' : World} {g : Nat} {a b d : Int} (h : RatAt w g a b d) (hb : Below w.heap.size w w') : RatAt w' g a b d :=
  ⟨Nat.lt_of_lt_of_le h.1 hb.size, (hb.cell (p := ⟨g, 0, none⟩) h.1).trans h.2.1, (hb.cell (p := ⟨g, 1, none⟩) h.1).trans h.2.2.1, (hb.cell (p := ⟨g, 2, none⟩) h.1).trans h.2.2.2⟩
def squareP (lo hi d : Int) : Int × Int × Int := if QM.vld lo hi = true ∧ QM.isD d = true then (if (decide (lo ≤ 0) && decide (0 ≤ hi)) = true then QM.sp (loF (QM.vF 0 0 d) [(lo, lo, d), (hi, hi, d)]) (hiF (QM.vC 0 0 d) [(lo, lo, d), (hi, hi, d)]) else QM.sp (loF (QM.vF lo lo d) [(hi, hi, d)]) (hiF (QM.vC lo lo d) [(hi, hi, d)])) else (0, 0, 2)
set_option maxRecDepth 100000 in
set_option maxHeartbeats 4000000 in
/-- 'Square' -/
theorem Square_any (lo hi d : Int) (w : World) : Calls Try.prog 65 #[.agg #[.int .i64 lo, .int .i64 hi], .int .i64 d] w fun e w' => e = .returned (.tuple #[.agg #[.int .i64 (squareP lo hi d).1, .int .i64 (squareP lo hi d).2.1], .int .i64 (squareP lo hi d).2.2]) ∧ Below w.heap.size w w' := by
  cases hv : QM.vld lo hi
  · have hP : squareP lo hi d = (0, 0, 2) := if_neg (by rw [hv]; simp)
    rw [hP]
    have HC := Lib.hid (chk_f hv)
    clear hv hP
    go_enter Try.func65, Try.ntmps65
    go_wp2_with fail
    refine (Check_e lo hi _ HC.out _).mono ?_
    rintro e w1 ⟨rfl, hb1⟩
    obtain ⟨hc1, hf1⟩ := bcell hb1
    go_wp2_with fail
    exact bodyPost_ret (v := .tuple #[.agg #[.int .i64 0, .int .i64 0], .int .i64 2]) (by simp [results, Try.results65, go_sem, hc1]) rfl ⟨rfl, by repeat (first | exact Below.refl _ _ | assumption | refine Below.trans ?_ (hb2.mono (by first | (simp; done) | omega | (simp; omega) | (have := hb1.size; (try simp at this); omega))) | refine Below.trans ?_ (hb1.mono (by first | (simp; done) | omega | (simp; omega))) | refine Below.drew ?_ | refine below_drewN ?_ _ | refine Below.setCell ?_ (by first | (simp; done) | omega | (simp; omega)) _ | refine Below.alloc ?_ (by first | (simp; done) | omega | (simp; omega)) _)⟩
  · cases h3 : QM.isD d
    · have hP : squareP lo hi d = (0, 0, 2) := if_neg (by rw [h3]; simp)
      rw [hP]
      have HC := Lib.hid (chk_t hv)
      have H3 := Lib.hid h3
      clear hv hP h3
      go_enter Try.func65, Try.ntmps65
      go_wp2_with fail
      refine (Check_e lo hi _ HC.out _).mono ?_
      rintro e w1 ⟨rfl, hb1⟩
      obtain ⟨hc1, hf1⟩ := bcell hb1
      go_wp2_with (go_at_call 105; refine (isD_eq _ _ _ H3.out).mono ?_; rintro e w' ⟨rfl, rfl⟩)
      exact bodyPost_ret (v := .tuple #[.agg #[.int .i64 0, .int .i64 0], .int .i64 2]) (by simp [results, Try.results65, go_sem, hc1]) rfl ⟨rfl, by repeat (first | exact Below.refl _ _ | assumption | refine Below.trans ?_ (hb2.mono (by first | (simp; done) | omega | (simp; omega) | (have := hb1.size; (try simp at this); omega))) | refine Below.trans ?_ (hb1.mono (by first | (simp; done) | omega | (simp; omega))) | refine Below.drew ?_ | refine below_drewN ?_ _ | refine Below.setCell ?_ (by first | (simp; done) | omega | (simp; omega)) _ | refine Below.alloc ?_ (by first | (simp; done) | omega | (simp; omega)) _)⟩
    · obtain ⟨x1, x2, x3⟩ := QM.vld_iff.1 hv
      obtain ⟨z1, z2⟩ := QM.isD_bd h3
      have R0 : RatOk (0, 0, d) := ratOk_of (by omega) (by omega) (by omega) (by omega) z1 z2
      have R1 : RatOk (lo, lo, d) := ratOk_of (by omega) (by omega) (by omega) (by omega) z1 z2
      have R2 : RatOk (hi, hi, d) := ratOk_of (by omega) (by omega) (by omega) (by omega) z1 z2
      have HR := Lib.hid (And.intro R0 (And.intro R1 R2))
      have HC := Lib.hid (chk_t hv)
      have H3 := Lib.hid h3
      have HS : squareP lo hi d = (if (decide (lo ≤ 0) && decide (0 ≤ hi)) = true then QM.sp (loF (QM.vF 0 0 d) [(lo, lo, d), (hi, hi, d)]) (hiF (QM.vC 0 0 d) [(lo, lo, d), (hi, hi, d)]) else QM.sp (loF (QM.vF lo lo d) [(hi, hi, d)]) (hiF (QM.vC lo lo d) [(hi, hi, d)])) := if_pos ⟨hv, h3⟩
      obtain ⟨P, hP⟩ : ∃ P, P = squareP lo hi d := ⟨_, rfl⟩
      rw [← hP] at HS ⊢
      have HSS := Lib.hid HS
      clear hv h3 R0 R1 R2 HS hP
      go_enter Try.func65, Try.ntmps65
      go_wp2_with fail
      refine (Check_e lo hi _ HC.out _).mono ?_
      rintro e w1 ⟨rfl, hb1⟩
      obtain ⟨hc1, hf1⟩ := bcell hb1
      have hs1 := hb1.size
      simp at hs1
      have p0 : w1.cell? ⟨w.heap.size + 1, 0, none⟩ = some (.int .i64 0) := by rw [hc1 _ _ (by simp)]; simp [go_sem]
      have p1 : w1.cell? ⟨w.heap.size + 1, 1, none⟩ = some (.int .i64 0) := by rw [hc1 _ _ (by simp)]; simp [go_sem]
      have p2 : ∀ o, w1.frozen? ⟨w.heap.size + 1, o, none⟩ = false := by intro o; rw [hf1 _ _ (by simp)]; simp [go_sem]
      have P0 := Lib.hid p0
      have P1 := Lib.hid p1
      have P2 := Lib.hid p2
      have c0 : w1.cell? ⟨w.heap.size, 0, none⟩ = some (.int .i64 lo) := by rw [hc1 _ _ (by simp; try omega)]; simp [go_sem]
      have c1 : w1.cell? ⟨w.heap.size, 1, none⟩ = some (.int .i64 hi) := by rw [hc1 _ _ (by simp; try omega)]; simp [go_sem]
      have zlt : w.heap.size < w1.heap.size := by omega
      clear p0 p1 p2 hc1 hf1
      go_wp2_with (go_at_call 105; refine (isD_eq _ _ _ H3.out).mono ?_; rintro e w' ⟨rfl, rfl⟩)
      go_cut [6, 7] (fun s6 s7 wx => ∃ g6 g7 : Nat, s6 = .pointer (some ⟨g6, 0, none⟩) ∧ s7 = .pointer (some ⟨g7, 0, none⟩) ∧ RatAt wx g6 lo lo d ∧ RatAt wx g7 hi hi d ∧ Below w1.heap.size w1 wx)
      case first =>
        go_region
        all_goals (go_wp2_with fail)
        all_goals go_meet
        all_goals exact ⟨_, _, rfl, rfl, ⟨by first | (simp; done) | (simp; omega), by simp [go_sem], by simp [go_sem], by simp [go_sem]⟩, ⟨by first | (simp; done) | (simp; omega), by simp [go_sem], by simp [go_sem], by simp [go_sem]⟩, by repeat (first | exact Below.refl _ _ | refine Below.drew ?_ | refine below_drewN ?_ _ | refine Below.setCell ?_ (by first | (simp; done) | omega | (simp; omega)) _ | refine Below.alloc ?_ (by first | (simp; done) | omega | (simp; omega)) _)⟩
      case rest =>
        obtain ⟨g6, g7, rfl, rfl, a6, a7, hB⟩ := hcut
        have A6 := Lib.hid a6
        have A7 := Lib.hid a7
        clear a6 a7
        have hsB := hB.size
        have P0 := Lib.hid ((hB.cell (p := ⟨w.heap.size + 1, 0, none⟩) (by show w.heap.size + 1 < w1.heap.size; omega)).trans P0.out)
        have P1 := Lib.hid ((hB.cell (p := ⟨w.heap.size + 1, 1, none⟩) (by show w.heap.size + 1 < w1.heap.size; omega)).trans P1.out)
        have P2 := Lib.hid (fun o => (hB.frozen (p := ⟨w.heap.size + 1, o, none⟩) (by show w.heap.size + 1 < w1.heap.size; omega)).trans (P2.out o))
        have d0 : wc.cell? ⟨w.heap.size, 0, none⟩ = some (.int .i64 lo) := (hB.cell (p := ⟨w.heap.size, 0, none⟩) zlt).trans c0
        have d1 : wc.cell? ⟨w.heap.size, 1, none⟩ = some (.int .i64 hi) := (hB.cell (p := ⟨w.heap.size, 1, none⟩) zlt).trans c1
        clear c0 c1
        cases hk : (decide (lo ≤ 0) && decide (0 ≤ hi))
        · have HP := HSS.out
          rw [hk] at HP
          have HPP := Lib.hid HP
          clear HP
          have HK := Lib.hid hk
          clear hk
          go_wp2_with fail
          refine (contains_e lo hi 0 _ HK.out _).mono ?_
          rintro e w4 ⟨rfl, hb3⟩
          have hs4 : wc.heap.size ≤ w4.heap.size := by have := hb3.size; (try simp at this); omega
          have hb3' : Below wc.heap.size wc w4 := by first | exact hb3 | exact ((Below.refl _ _).alloc (Nat.le_refl _) _).trans (hb3.mono (by simp))
          obtain ⟨l6, a60, a61, a62⟩ := A6.out.keep hb3'
          obtain ⟨l7, a70, a71, a72⟩ := A7.out.keep hb3'
          have P0 := Lib.hid ((hb3'.cell (p := ⟨w.heap.size + 1, 0, none⟩) (by show w.heap.size + 1 < wc.heap.size; omega)).trans P0.out)
          have P1 := Lib.hid ((hb3'.cell (p := ⟨w.heap.size + 1, 1, none⟩) (by show w.heap.size + 1 < wc.heap.size; omega)).trans P1.out)
          have P2 := Lib.hid (fun o => (hb3'.frozen (p := ⟨w.heap.size + 1, o, none⟩) (by show w.heap.size + 1 < wc.heap.size; omega)).trans (P2.out o))
          go_wp2_with fail
          refine (spanOf1 (lo, lo, d) (hi, hi, d) _ _ _ HR.out.2.1 HR.out.2.2 (by first | (simp; done) | (simp [go_sem]; done) | (go_simp; done)) (by first | (simp; done) | (simp [go_sem]; done) | (go_simp; done)) (by first | (simp; done) | (simp [go_sem]; done) | (go_simp; done)) (by first | (simp; done) | (simp [go_sem]; done) | (go_simp; done)) P HPP.out.symm).mono ?_
          rintro e w5 ⟨rfl, hb2⟩
          have q0 : w5.cell? ⟨w.heap.size + 1, 0, none⟩ = some (.int .i64 0) := by rw [hb2.cell (p := ⟨w.heap.size + 1, 0, none⟩) (by simp; omega)]; exact keep_alloc P0.out
          have q1 : w5.cell? ⟨w.heap.size + 1, 1, none⟩ = some (.int .i64 0) := by rw [hb2.cell (p := ⟨w.heap.size + 1, 1, none⟩) (by simp; omega)]; exact keep_alloc P1.out
          have q2 : ∀ o, w5.frozen? ⟨w.heap.size + 1, o, none⟩ = false := by
            intro o
            rw [hb2.frozen (p := ⟨w.heap.size + 1, o, none⟩) (by simp; omega), World.frozen?_alloc_past _ _ _ (by omega)]
            exact P2.out o
          clear a60 a61 a62 a70 a71 a72
          go_wp2_with fail
          exact bodyPost_ret (v := .tuple #[.agg #[.int .i64 P.1, .int .i64 P.2.1], .int .i64 P.2.2]) (by simp [results, Try.results65, go_sem, q0, q1]) rfl ⟨rfl, by repeat (first | exact Below.refl _ _ | refine Below.trans ?_ (hb2.mono (by first | (simp; done) | omega | (simp; omega))) | refine Below.trans ?_ (hb3.mono (by first | (simp; done) | omega | (simp; omega))) | refine Below.trans ?_ (hB.mono (by first | (simp; done) | omega | (simp; omega))) | refine Below.trans ?_ (hb1.mono (by first | (simp; done) | omega | (simp; omega))) | refine Below.drew ?_ | refine Below.setCell ?_ (by first | (simp; done) | omega | (simp; omega)) _ | refine Below.alloc ?_ (by first | (simp; done) | omega | (simp; omega)) _)⟩
        · have HP := HSS.out
          rw [hk] at HP
          have HPP := Lib.hid HP
          clear HP
          have HK := Lib.hid hk
          clear hk
          go_wp2_with fail
          refine (contains_e lo hi 0 _ HK.out _).mono ?_
          rintro e w4 ⟨rfl, hb3⟩
          have hs4 : wc.heap.size ≤ w4.heap.size := by have := hb3.size; (try simp at this); omega
          have hb3' : Below wc.heap.size wc w4 := by first | exact hb3 | exact ((Below.refl _ _).alloc (Nat.le_refl _) _).trans (hb3.mono (by simp))
          obtain ⟨l6, a60, a61, a62⟩ := A6.out.keep hb3'
          obtain ⟨l7, a70, a71, a72⟩ := A7.out.keep hb3'
          have P0 := Lib.hid ((hb3'.cell (p := ⟨w.heap.size + 1, 0, none⟩) (by show w.heap.size + 1 < wc.heap.size; omega)).trans P0.out)
          have P1 := Lib.hid ((hb3'.cell (p := ⟨w.heap.size + 1, 1, none⟩) (by show w.heap.size + 1 < wc.heap.size; omega)).trans P1.out)
          have P2 := Lib.hid (fun o => (hb3'.frozen (p := ⟨w.heap.size + 1, o, none⟩) (by show w.heap.size + 1 < wc.heap.size; omega)).trans (P2.out o))
          go_wp2_with fail
          refine (spanOf2 (0, 0, d) (lo, lo, d) (hi, hi, d) _ _ _ HR.out.1 HR.out.2.1 HR.out.2.2 (by first | (simp; done) | (simp [go_sem]; done) | (go_simp; done)) (by first | (simp; done) | (simp [go_sem]; done) | (go_simp; done)) (by first | (simp; done) | (simp [go_sem]; done) | (go_simp; done)) (by first | (simp; done) | (simp [go_sem]; done) | (go_simp; done)) (by first | (simp; done) | (simp [go_sem]; done) | (go_simp; done)) (by first | (simp; done) | (simp [go_sem]; done) | (go_simp; done)) (by first | (simp; done) | (simp [go_sem]; done) | (go_simp; done)) P HPP.out.symm).mono ?_
          rintro e w5 ⟨rfl, hb2⟩
          have q0 : w5.cell? ⟨w.heap.size + 1, 0, none⟩ = some (.int .i64 0) := by rw [hb2.cell (p := ⟨w.heap.size + 1, 0, none⟩) (by simp; omega)]; exact keep_alloc P0.out
          have q1 : w5.cell? ⟨w.heap.size + 1, 1, none⟩ = some (.int .i64 0) := by rw [hb2.cell (p := ⟨w.heap.size + 1, 1, none⟩) (by simp; omega)]; exact keep_alloc P1.out
          have q2 : ∀ o, w5.frozen? ⟨w.heap.size + 1, o, none⟩ = false := by
            intro o
            rw [hb2.frozen (p := ⟨w.heap.size + 1, o, none⟩) (by simp; omega), World.frozen?_alloc_past _ _ _ (by omega)]
            exact P2.out o
          clear a60 a61 a62 a70 a71 a72
          go_wp2_with fail
          exact bodyPost_ret (v := .tuple #[.agg #[.int .i64 P.1, .int .i64 P.2.1], .int .i64 P.2.2]) (by simp [results, Try.results65, go_sem, q0, q1]) rfl ⟨rfl, by repeat (first | exact Below.refl _ _ | refine Below.trans ?_ (hb2.mono (by first | (simp; done) | omega | (simp; omega))) | refine Below.trans ?_ (hb3.mono (by first | (simp; done) | omega | (simp; omega))) | refine Below.trans ?_ (hB.mono (by first | (simp; done) | omega | (simp; omega))) | refine Below.trans ?_ (hb1.mono (by first | (simp; done) | omega | (simp; omega))) | refine Below.drew ?_ | refine Below.setCell ?_ (by first | (simp; done) | omega | (simp; omega)) _ | refine Below.alloc ?_ (by first | (simp; done) | omega | (simp; omega)) _)⟩
end Go.Proofs.Ytlaalhbicblbeaa
