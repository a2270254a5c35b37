/- The contracts of the functions of one span: Neg, Grow, Width, Middle, Clip, Scale. -/
import Derived.Test.YtlaalhbicblbeaaOp1
namespace Go.Proofs.Ytlaalhbicblbeaa
open Go.RowKit
def negP (lo hi : Int) : Int × Int × Int := if QM.vld lo hi = true then QM.sp (-hi) (-lo) else (0, 0, 2)
set_option maxRecDepth 100000 in
set_option maxHeartbeats 1000000 in
/-- 'Neg' -/
theorem Neg_any (lo hi : Int) (w : World) : Calls Try.prog 66 #[.agg #[.int .i64 lo, .int .i64 hi]] w fun e w' => e = .returned (.tuple #[.agg #[.int .i64 (negP lo hi).1, .int .i64 (negP lo hi).2.1], .int .i64 (negP lo hi).2.2]) ∧ Below w.heap.size w w' := by
  cases hv : QM.vld lo hi
  · have hP : negP lo hi = (0, 0, 2) := if_neg (by rw [hv]; simp)
    rw [hP]
    have HC := Lib.hid (chk_f hv)
    clear hv hP
    go_enter Try.func66, Try.ntmps66
    go_wp2_with fail
    refine (Check_e lo hi _ HC.out _).mono ?_
    rintro e w1 ⟨rfl, hb1⟩
    obtain ⟨hc1, hf1⟩ := bcell hb1
    go_wp2_with fail
    exact bodyPost_ret (v := .tuple #[.agg #[.int .i64 0, .int .i64 0], .int .i64 2]) (by simp [results, Try.results66, go_sem, hc1]) rfl ⟨rfl, by repeat (first | exact Below.refl _ _ | assumption | refine Below.trans ?_ (hb2.mono (by first | (simp; done) | omega | (simp; omega) | (have := hb1.size; (try simp at this); omega))) | refine Below.trans ?_ (hb1.mono (by first | (simp; done) | omega | (simp; omega))) | refine Below.drew ?_ | refine below_drewN ?_ _ | refine Below.setCell ?_ (by first | (simp; done) | omega | (simp; omega)) _ | refine Below.alloc ?_ (by first | (simp; done) | omega | (simp; omega)) _)⟩
  · obtain ⟨P, hPP⟩ : ∃ P, QM.sp (-hi) (-lo) = P := ⟨_, rfl⟩
    have hP : negP lo hi = P := by rw [← hPP]; exact if_pos hv
    obtain ⟨x1, x2, x3⟩ := QM.vld_iff.1 hv
    have HC := Lib.hid (chk_t hv)
    have KL := Lib.hid (fun W => limitedSpan_any (-hi) (-lo) W)
    rw [hPP] at KL
    rw [hP]
    clear hv hP hPP
    go_enter Try.func66, Try.ntmps66
    go_wp2_with fail
    refine (Check_e lo hi _ HC.out _).mono ?_
    rintro e w1 ⟨rfl, hb1⟩
    obtain ⟨hc1, hf1⟩ := bcell hb1
    have hs1 := hb1.size
    simp at hs1
    have p0 : w1.cell? ⟨w.heap.size + 1, 0, none⟩ = some (.int .i64 0) := by rw [hc1 _ _ (by simp)]; simp [go_sem]
    have p1 : w1.cell? ⟨w.heap.size + 1, 1, none⟩ = some (.int .i64 0) := by rw [hc1 _ _ (by simp)]; simp [go_sem]
    have p2 : ∀ o, w1.frozen? ⟨w.heap.size + 1, o, none⟩ = false := by intro o; rw [hf1 _ _ (by simp)]; simp [go_sem]
    have P0 := Lib.hid p0
    have P1 := Lib.hid p1
    have P2 := Lib.hid p2
    have c0 : w1.cell? ⟨w.heap.size, 0, none⟩ = some (.int .i64 lo) := by rw [hc1 _ _ (by simp; try omega)]; simp [go_sem]
    have c1 : w1.cell? ⟨w.heap.size, 1, none⟩ = some (.int .i64 hi) := by rw [hc1 _ _ (by simp; try omega)]; simp [go_sem]
    clear p0 p1 p2 hc1 hf1
    go_wp2_with fail
    refine (KL.out _).mono ?_
    rintro e w2 ⟨rfl, hb2⟩
    have zlt : w.heap.size + 1 < w1.heap.size := by omega
    have q0 : w2.cell? ⟨w.heap.size + 1, 0, none⟩ = some (.int .i64 0) := by rw [hb2.cell (p := ⟨w.heap.size + 1, 0, none⟩) (by first | exact zlt | (simp; omega))]; first | exact P0.out | exact keep_alloc P0.out
    have q1 : w2.cell? ⟨w.heap.size + 1, 1, none⟩ = some (.int .i64 0) := by rw [hb2.cell (p := ⟨w.heap.size + 1, 1, none⟩) (by first | exact zlt | (simp; omega))]; first | exact P1.out | exact keep_alloc P1.out
    have q2 : ∀ o, w2.frozen? ⟨w.heap.size + 1, o, none⟩ = false := by
      intro o
      rw [hb2.frozen (p := ⟨w.heap.size + 1, o, none⟩) (by first | exact zlt | (simp; omega))]
      first | exact P2.out o | (rw [World.frozen?_alloc_past _ _ _ zlt]; exact P2.out o)
    clear c0 c1
    go_wp2_with fail
    exact bodyPost_ret (v := .tuple #[.agg #[.int .i64 P.1, .int .i64 P.2.1], .int .i64 P.2.2]) (by simp [results, Try.results66, go_sem, q0, q1]) rfl ⟨rfl, by repeat (first | exact Below.refl _ _ | assumption | refine Below.trans ?_ (hb2.mono (by first | (simp; done) | omega | (simp; omega) | (have := hb1.size; (try simp at this); omega))) | refine Below.trans ?_ (hb1.mono (by first | (simp; done) | omega | (simp; omega))) | refine Below.drew ?_ | refine below_drewN ?_ _ | refine Below.setCell ?_ (by first | (simp; done) | omega | (simp; omega)) _ | refine Below.alloc ?_ (by first | (simp; done) | omega | (simp; omega)) _)⟩
def growP (lo hi d : Int) : Int × Int × Int := if QM.vld lo hi = true ∧ 0 ≤ d ∧ d ≤ 1099511627776 then QM.sp (lo - d) (hi + d) else (0, 0, 2)
set_option maxRecDepth 100000 in
set_option maxHeartbeats 1000000 in
/-- 'Grow' -/
theorem Grow_any (lo hi d : Int) (w : World) : Calls Try.prog 92 #[.agg #[.int .i64 lo, .int .i64 hi], .int .i64 d] w fun e w' => e = .returned (.tuple #[.agg #[.int .i64 (growP lo hi d).1, .int .i64 (growP lo hi d).2.1], .int .i64 (growP lo hi d).2.2]) ∧ Below w.heap.size w w' := by
  cases hv : QM.vld lo hi
  · have hP : growP lo hi d = (0, 0, 2) := if_neg (by rw [hv]; simp)
    rw [hP]
    have HC := Lib.hid (chk_f hv)
    clear hv hP
    go_enter Try.func92, Try.ntmps92
    go_wp2_with fail
    refine (Check_e lo hi _ HC.out _).mono ?_
    rintro e w1 ⟨rfl, hb1⟩
    obtain ⟨hc1, hf1⟩ := bcell hb1
    go_wp2_with fail
    exact bodyPost_ret (v := .tuple #[.agg #[.int .i64 0, .int .i64 0], .int .i64 2]) (by simp [results, Try.results92, go_sem, hc1]) rfl ⟨rfl, by repeat (first | exact Below.refl _ _ | assumption | refine Below.trans ?_ (hb2.mono (by first | (simp; done) | omega | (simp; omega) | (have := hb1.size; (try simp at this); omega))) | refine Below.trans ?_ (hb1.mono (by first | (simp; done) | omega | (simp; omega))) | refine Below.drew ?_ | refine below_drewN ?_ _ | refine Below.setCell ?_ (by first | (simp; done) | omega | (simp; omega)) _ | refine Below.alloc ?_ (by first | (simp; done) | omega | (simp; omega)) _)⟩
  · by_cases hd : 0 ≤ d
    · by_cases hd2 : d ≤ 1099511627776
      · obtain ⟨P, hPP⟩ : ∃ P, QM.sp (lo - d) (hi + d) = P := ⟨_, rfl⟩
        have hP : growP lo hi d = P := by rw [← hPP]; exact if_pos ⟨hv, hd, hd2⟩
        obtain ⟨x1, x2, x3⟩ := QM.vld_iff.1 hv
        have HC := Lib.hid (chk_t hv)
        have KL := Lib.hid (fun W => limitedSpan_any (lo - d) (hi + d) W)
        rw [hPP] at KL
        rw [hP]
        clear hv hP hPP
        go_enter Try.func92, Try.ntmps92
        go_wp2_with fail
        refine (Check_e lo hi _ HC.out _).mono ?_
        rintro e w1 ⟨rfl, hb1⟩
        obtain ⟨hc1, hf1⟩ := bcell hb1
        have hs1 := hb1.size
        simp at hs1
        have p0 : w1.cell? ⟨w.heap.size + 1, 0, none⟩ = some (.int .i64 0) := by rw [hc1 _ _ (by simp)]; simp [go_sem]
        have p1 : w1.cell? ⟨w.heap.size + 1, 1, none⟩ = some (.int .i64 0) := by rw [hc1 _ _ (by simp)]; simp [go_sem]
        have p2 : ∀ o, w1.frozen? ⟨w.heap.size + 1, o, none⟩ = false := by intro o; rw [hf1 _ _ (by simp)]; simp [go_sem]
        have P0 := Lib.hid p0
        have P1 := Lib.hid p1
        have P2 := Lib.hid p2
        have c0 : w1.cell? ⟨w.heap.size, 0, none⟩ = some (.int .i64 lo) := by rw [hc1 _ _ (by simp; try omega)]; simp [go_sem]
        have c1 : w1.cell? ⟨w.heap.size, 1, none⟩ = some (.int .i64 hi) := by rw [hc1 _ _ (by simp; try omega)]; simp [go_sem]
        clear p0 p1 p2 hc1 hf1
        go_wp2_with fail
        refine (KL.out _).mono ?_
        rintro e w2 ⟨rfl, hb2⟩
        have zlt : w.heap.size + 1 < w1.heap.size := by omega
        have q0 : w2.cell? ⟨w.heap.size + 1, 0, none⟩ = some (.int .i64 0) := by rw [hb2.cell (p := ⟨w.heap.size + 1, 0, none⟩) (by first | exact zlt | (simp; omega))]; first | exact P0.out | exact keep_alloc P0.out
        have q1 : w2.cell? ⟨w.heap.size + 1, 1, none⟩ = some (.int .i64 0) := by rw [hb2.cell (p := ⟨w.heap.size + 1, 1, none⟩) (by first | exact zlt | (simp; omega))]; first | exact P1.out | exact keep_alloc P1.out
        have q2 : ∀ o, w2.frozen? ⟨w.heap.size + 1, o, none⟩ = false := by
          intro o
          rw [hb2.frozen (p := ⟨w.heap.size + 1, o, none⟩) (by first | exact zlt | (simp; omega))]
          first | exact P2.out o | (rw [World.frozen?_alloc_past _ _ _ zlt]; exact P2.out o)
        clear c0 c1
        go_wp2_with fail
        exact bodyPost_ret (v := .tuple #[.agg #[.int .i64 P.1, .int .i64 P.2.1], .int .i64 P.2.2]) (by simp [results, Try.results92, go_sem, q0, q1]) rfl ⟨rfl, by repeat (first | exact Below.refl _ _ | assumption | refine Below.trans ?_ (hb2.mono (by first | (simp; done) | omega | (simp; omega) | (have := hb1.size; (try simp at this); omega))) | refine Below.trans ?_ (hb1.mono (by first | (simp; done) | omega | (simp; omega))) | refine Below.drew ?_ | refine below_drewN ?_ _ | refine Below.setCell ?_ (by first | (simp; done) | omega | (simp; omega)) _ | refine Below.alloc ?_ (by first | (simp; done) | omega | (simp; omega)) _)⟩
      · have hP : growP lo hi d = (0, 0, 2) := if_neg (fun h => hd2 h.2.2)
        rw [hP]
        have HC := Lib.hid (chk_t hv)
        clear hv hP
        go_enter Try.func92, Try.ntmps92
        go_wp2_with fail
        refine (Check_e lo hi _ HC.out _).mono ?_
        rintro e w1 ⟨rfl, hb1⟩
        obtain ⟨hc1, hf1⟩ := bcell hb1
        go_wp2_with fail
        exact bodyPost_ret (v := .tuple #[.agg #[.int .i64 0, .int .i64 0], .int .i64 2]) (by simp [results, Try.results92, go_sem, hc1]) rfl ⟨rfl, by repeat (first | exact Below.refl _ _ | assumption | refine Below.trans ?_ (hb2.mono (by first | (simp; done) | omega | (simp; omega) | (have := hb1.size; (try simp at this); omega))) | refine Below.trans ?_ (hb1.mono (by first | (simp; done) | omega | (simp; omega))) | refine Below.drew ?_ | refine below_drewN ?_ _ | refine Below.setCell ?_ (by first | (simp; done) | omega | (simp; omega)) _ | refine Below.alloc ?_ (by first | (simp; done) | omega | (simp; omega)) _)⟩
    · have hP : growP lo hi d = (0, 0, 2) := if_neg (fun h => hd h.2.1)
      rw [hP]
      have HC := Lib.hid (chk_t hv)
      clear hv hP
      go_enter Try.func92, Try.ntmps92
      go_wp2_with fail
      refine (Check_e lo hi _ HC.out _).mono ?_
      rintro e w1 ⟨rfl, hb1⟩
      obtain ⟨hc1, hf1⟩ := bcell hb1
      go_wp2_with fail
      exact bodyPost_ret (v := .tuple #[.agg #[.int .i64 0, .int .i64 0], .int .i64 2]) (by simp [results, Try.results92, go_sem, hc1]) rfl ⟨rfl, by repeat (first | exact Below.refl _ _ | assumption | refine Below.trans ?_ (hb2.mono (by first | (simp; done) | omega | (simp; omega) | (have := hb1.size; (try simp at this); omega))) | refine Below.trans ?_ (hb1.mono (by first | (simp; done) | omega | (simp; omega))) | refine Below.drew ?_ | refine below_drewN ?_ _ | refine Below.setCell ?_ (by first | (simp; done) | omega | (simp; omega)) _ | refine Below.alloc ?_ (by first | (simp; done) | omega | (simp; omega)) _)⟩
def widthP (lo hi : Int) : Int × Int := if QM.vld lo hi = true then QM.lim (hi - lo) else (0, 2)
set_option maxRecDepth 100000 in
set_option maxHeartbeats 1000000 in
/-- 'Width' -/
theorem Width_any (lo hi : Int) (w : World) : Calls Try.prog 96 #[.agg #[.int .i64 lo, .int .i64 hi]] w fun e w' => e = .returned (.tuple #[.int .i64 (widthP lo hi).1, .int .i64 (widthP lo hi).2]) ∧ Below w.heap.size w w' := by
  cases hv : QM.vld lo hi
  · have hP : widthP lo hi = (0, 2) := if_neg (by rw [hv]; simp)
    rw [hP]
    have HC := Lib.hid (chk_f hv)
    clear hv hP
    go_enter Try.func96, Try.ntmps96
    go_wp2_with fail
    refine (Check_e lo hi _ HC.out _).mono ?_
    rintro e w1 ⟨rfl, hb1⟩
    go_wp2_with fail
    go_ret2
    exact ⟨rfl, by repeat (first | exact Below.refl _ _ | assumption | refine Below.trans ?_ (hb2.mono (by first | (simp; done) | omega | (simp; omega) | (have := hb1.size; (try simp at this); omega))) | refine Below.trans ?_ (hb1.mono (by first | (simp; done) | omega | (simp; omega))) | refine Below.drew ?_ | refine below_drewN ?_ _ | refine Below.setCell ?_ (by first | (simp; done) | omega | (simp; omega)) _ | refine Below.alloc ?_ (by first | (simp; done) | omega | (simp; omega)) _)⟩
  · have hP : widthP lo hi = QM.lim (hi - lo) := if_pos hv
    rw [hP]
    obtain ⟨x1, x2, x3⟩ := QM.vld_iff.1 hv
    have HC := Lib.hid (chk_t hv)
    clear hv hP
    go_enter Try.func96, Try.ntmps96
    go_wp2_with fail
    refine (Check_e lo hi _ HC.out _).mono ?_
    rintro e w1 ⟨rfl, hb1⟩
    obtain ⟨hc1, hf1⟩ := bcell hb1
    go_wp2_with fail
    refine (limited_any (hi - lo) _).mono ?_
    rintro e w' ⟨rfl, rfl⟩
    go_wp2_with fail
    go_ret2
    exact ⟨rfl, by repeat (first | exact Below.refl _ _ | assumption | refine Below.trans ?_ (hb2.mono (by first | (simp; done) | omega | (simp; omega) | (have := hb1.size; (try simp at this); omega))) | refine Below.trans ?_ (hb1.mono (by first | (simp; done) | omega | (simp; omega))) | refine Below.drew ?_ | refine below_drewN ?_ _ | refine Below.setCell ?_ (by first | (simp; done) | omega | (simp; omega)) _ | refine Below.alloc ?_ (by first | (simp; done) | omega | (simp; omega)) _)⟩
set_option maxRecDepth 100000 in
set_option maxHeartbeats 1000000 in
/-- 'middle' -/
theorem mid_any (lo hi : Int) (w : World) (x1 : -1099511627776 ≤ lo) (x2 : lo ≤ hi) (x3 : hi ≤ 1099511627776) : Calls Try.prog 123 #[.agg #[.int .i64 lo, .int .i64 hi]] w fun e w' => e = .returned (.int .i64 (QM.vF (lo + hi) 1 2)) ∧ Below w.heap.size w w' := by
  have K := Lib.hid (fun W => floor_any (lo + hi) 1 2 W (by omega) (by omega) (by omega) (by omega) (by omega) (by omega))
  generalize QM.vF (lo + hi) 1 2 = v at *
  go_enter Try.func123, Try.ntmps123
  go_wp2_with fail
  refine (K.out _).mono ?_
  rintro e w1 ⟨rfl, hb1⟩
  go_wp2_with fail
  go_ret
  exact ⟨rfl, by repeat (first | exact Below.refl _ _ | assumption | refine Below.trans ?_ (hb2.mono (by first | (simp; done) | omega | (simp; omega) | (have := hb1.size; (try simp at this); omega))) | refine Below.trans ?_ (hb1.mono (by first | (simp; done) | omega | (simp; omega))) | refine Below.drew ?_ | refine below_drewN ?_ _ | refine Below.setCell ?_ (by first | (simp; done) | omega | (simp; omega)) _ | refine Below.alloc ?_ (by first | (simp; done) | omega | (simp; omega)) _)⟩
def middleP (lo hi : Int) : Int × Int := if QM.vld lo hi = true then (QM.vF (lo + hi) 1 2, 0) else (0, 2)
set_option maxRecDepth 100000 in
set_option maxHeartbeats 1000000 in
/-- 'Middle' -/
theorem Middle_any (lo hi : Int) (w : World) : Calls Try.prog 98 #[.agg #[.int .i64 lo, .int .i64 hi]] w fun e w' => e = .returned (.tuple #[.int .i64 (middleP lo hi).1, .int .i64 (middleP lo hi).2]) ∧ Below w.heap.size w w' := by
  cases hv : QM.vld lo hi
  · have hP : middleP lo hi = (0, 2) := if_neg (by rw [hv]; simp)
    rw [hP]
    have HC := Lib.hid (chk_f hv)
    clear hv hP
    go_enter Try.func98, Try.ntmps98
    go_wp2_with fail
    refine (Check_e lo hi _ HC.out _).mono ?_
    rintro e w1 ⟨rfl, hb1⟩
    go_wp2_with fail
    go_ret2
    exact ⟨rfl, by repeat (first | exact Below.refl _ _ | assumption | refine Below.trans ?_ (hb2.mono (by first | (simp; done) | omega | (simp; omega) | (have := hb1.size; (try simp at this); omega))) | refine Below.trans ?_ (hb1.mono (by first | (simp; done) | omega | (simp; omega))) | refine Below.drew ?_ | refine below_drewN ?_ _ | refine Below.setCell ?_ (by first | (simp; done) | omega | (simp; omega)) _ | refine Below.alloc ?_ (by first | (simp; done) | omega | (simp; omega)) _)⟩
  · have hP : middleP lo hi = (QM.vF (lo + hi) 1 2, 0) := if_pos hv
    rw [hP]
    obtain ⟨x1, x2, x3⟩ := QM.vld_iff.1 hv
    have HC := Lib.hid (chk_t hv)
    have K := Lib.hid (fun W => mid_any lo hi W x1 x2 x3)
    generalize QM.vF (lo + hi) 1 2 = v at *
    clear hv hP
    go_enter Try.func98, Try.ntmps98
    go_wp2_with fail
    refine (Check_e lo hi _ HC.out _).mono ?_
    rintro e w1 ⟨rfl, hb1⟩
    obtain ⟨hc1, hf1⟩ := bcell hb1
    go_wp2_with fail
    refine (K.out _).mono ?_
    rintro e w2 ⟨rfl, hb2⟩
    go_wp2_with fail
    go_ret2
    exact ⟨rfl, by repeat (first | exact Below.refl _ _ | assumption | refine Below.trans ?_ (hb2.mono (by first | (simp; done) | omega | (simp; omega) | (have := hb1.size; (try simp at this); omega))) | refine Below.trans ?_ (hb1.mono (by first | (simp; done) | omega | (simp; omega))) | refine Below.drew ?_ | refine below_drewN ?_ _ | refine Below.setCell ?_ (by first | (simp; done) | omega | (simp; omega)) _ | refine Below.alloc ?_ (by first | (simp; done) | omega | (simp; omega)) _)⟩
theorem spanOf1 (f p : Rat3) (b cap : Nat) (W : World) (hf : RatOk f) (hp : RatOk p)
    (h0 : W.cell? ⟨b, 0, none⟩ = some (.int .i64 p.1)) (h1 : W.cell? ⟨b, 1, none⟩ = some (.int .i64 p.2.1)) (h2 : W.cell? ⟨b, 2, none⟩ = some (.int .i64 p.2.2)) (hb : b < W.heap.size)
    (P : Int × Int × Int) (hP : QM.sp (loF (QM.vF f.1 f.2.1 f.2.2) [p]) (hiF (QM.vC f.1 f.2.1 f.2.2) [p]) = P) :
    Calls Try.prog 106 #[.agg #[.int .i64 f.1, .int .i64 f.2.1, .int .i64 f.2.2], .slice (some ⟨b, 0, none⟩) 1 cap] W fun e w' => e = .returned (.tuple #[.agg #[.int .i64 P.1, .int .i64 P.2.1], .int .i64 P.2.2]) ∧ Below W.heap.size W w' := by
  rw [← hP]
  refine spanOf_any f.1 f.2.1 f.2.2 [p] b 0 cap W hf ?_ ?_ hb (by simp)
  · intro i hi
    simp only [List.length_cons, List.length_nil] at hi
    match i, hi with
    | 0, _ => exact ⟨h0, h1, h2⟩
  · intro x hx
    simp only [List.mem_cons, List.not_mem_nil, or_false] at hx
    rw [hx]; exact hp
def scaleP (lo hi n d : Int) : Int × Int × Int := if QM.vld lo hi = true ∧ QM.isQ n = true ∧ QM.isD d = true then QM.sp (loF (QM.vF lo n d) [(hi, n, d)]) (hiF (QM.vC lo n d) [(hi, n, d)]) else (0, 0, 2)
set_option maxRecDepth 100000 in
set_option maxHeartbeats 1000000 in
/-- 'Scale' -/
theorem Scale_any (lo hi n d : Int) (w : World) : Calls Try.prog 64 #[.agg #[.int .i64 lo, .int .i64 hi], .int .i64 n, .int .i64 d] w fun e w' => e = .returned (.tuple #[.agg #[.int .i64 (scaleP lo hi n d).1, .int .i64 (scaleP lo hi n d).2.1], .int .i64 (scaleP lo hi n d).2.2]) ∧ Below w.heap.size w w' := by
  cases hv : QM.vld lo hi
  · have hP : scaleP lo hi n d = (0, 0, 2) := if_neg (by rw [hv]; simp)
    rw [hP]
    have HC := Lib.hid (chk_f hv)
    clear hv hP
    go_enter Try.func64, Try.ntmps64
    go_wp2_with fail
    refine (Check_e lo hi _ HC.out _).mono ?_
    rintro e w1 ⟨rfl, hb1⟩
    obtain ⟨hc1, hf1⟩ := bcell hb1
    go_wp2_with fail
    exact bodyPost_ret (v := .tuple #[.agg #[.int .i64 0, .int .i64 0], .int .i64 2]) (by simp [results, Try.results64, go_sem, hc1]) rfl ⟨rfl, by repeat (first | exact Below.refl _ _ | assumption | refine Below.trans ?_ (hb2.mono (by first | (simp; done) | omega | (simp; omega) | (have := hb1.size; (try simp at this); omega))) | refine Below.trans ?_ (hb1.mono (by first | (simp; done) | omega | (simp; omega))) | refine Below.drew ?_ | refine below_drewN ?_ _ | refine Below.setCell ?_ (by first | (simp; done) | omega | (simp; omega)) _ | refine Below.alloc ?_ (by first | (simp; done) | omega | (simp; omega)) _)⟩
  · cases h2 : QM.isQ n
    · have hP : scaleP lo hi n d = (0, 0, 2) := if_neg (by rw [h2]; simp)
      rw [hP]
      have HC := Lib.hid (chk_t hv)
      have H2 := Lib.hid h2
      clear hv hP h2
      go_enter Try.func64, Try.ntmps64
      go_wp2_with fail
      refine (Check_e lo hi _ HC.out _).mono ?_
      rintro e w1 ⟨rfl, hb1⟩
      obtain ⟨hc1, hf1⟩ := bcell hb1
      go_wp2_with (go_at_call 85; refine (isQ_eq _ _ _ H2.out).mono ?_; rintro e w' ⟨rfl, rfl⟩)
      exact bodyPost_ret (v := .tuple #[.agg #[.int .i64 0, .int .i64 0], .int .i64 2]) (by simp [results, Try.results64, go_sem, hc1]) rfl ⟨rfl, by repeat (first | exact Below.refl _ _ | assumption | refine Below.trans ?_ (hb2.mono (by first | (simp; done) | omega | (simp; omega) | (have := hb1.size; (try simp at this); omega))) | refine Below.trans ?_ (hb1.mono (by first | (simp; done) | omega | (simp; omega))) | refine Below.drew ?_ | refine below_drewN ?_ _ | refine Below.setCell ?_ (by first | (simp; done) | omega | (simp; omega)) _ | refine Below.alloc ?_ (by first | (simp; done) | omega | (simp; omega)) _)⟩
    · cases h3 : QM.isD d
      · have hP : scaleP lo hi n d = (0, 0, 2) := if_neg (by rw [h3]; simp)
        rw [hP]
        have HC := Lib.hid (chk_t hv)
        have H2 := Lib.hid h2
        have H3 := Lib.hid h3
        clear hv hP h2 h3
        go_enter Try.func64, Try.ntmps64
        go_wp2_with fail
        refine (Check_e lo hi _ HC.out _).mono ?_
        rintro e w1 ⟨rfl, hb1⟩
        obtain ⟨hc1, hf1⟩ := bcell hb1
        go_wp2_with (first | (go_at_call 85; refine (isQ_eq _ _ _ H2.out).mono ?_; rintro e w' ⟨rfl, rfl⟩) | (go_at_call 105; refine (isD_eq _ _ _ H3.out).mono ?_; rintro e w' ⟨rfl, rfl⟩))
        exact bodyPost_ret (v := .tuple #[.agg #[.int .i64 0, .int .i64 0], .int .i64 2]) (by simp [results, Try.results64, go_sem, hc1]) rfl ⟨rfl, by repeat (first | exact Below.refl _ _ | assumption | refine Below.trans ?_ (hb2.mono (by first | (simp; done) | omega | (simp; omega) | (have := hb1.size; (try simp at this); omega))) | refine Below.trans ?_ (hb1.mono (by first | (simp; done) | omega | (simp; omega))) | refine Below.drew ?_ | refine below_drewN ?_ _ | refine Below.setCell ?_ (by first | (simp; done) | omega | (simp; omega)) _ | refine Below.alloc ?_ (by first | (simp; done) | omega | (simp; omega)) _)⟩
      · obtain ⟨P, hPP⟩ : ∃ P, QM.sp (loF (QM.vF lo n d) [(hi, n, d)]) (hiF (QM.vC lo n d) [(hi, n, d)]) = P := ⟨_, rfl⟩
        have hP : scaleP lo hi n d = P := by rw [← hPP]; exact if_pos ⟨hv, h2, h3⟩
        obtain ⟨x1, x2, x3⟩ := QM.vld_iff.1 hv
        obtain ⟨y1, y2⟩ := QM.isQ_bd h2
        obtain ⟨z1, z2⟩ := QM.isD_bd h3
        have R1 : RatOk (lo, n, d) := ratOk_of (by omega) (by omega) (by omega) (by omega) z1 z2
        have R2 : RatOk (hi, n, d) := ratOk_of (by omega) (by omega) (by omega) (by omega) z1 z2
        have HC := Lib.hid (chk_t hv)
        have H2 := Lib.hid h2
        have H3 := Lib.hid h3
        have HP := Lib.hid hPP
        have HR := Lib.hid (And.intro R1 R2)
        rw [hP]
        clear hv hP hPP h2 h3 R1 R2
        go_enter Try.func64, Try.ntmps64
        go_wp2_with fail
        refine (Check_e lo hi _ HC.out _).mono ?_
        rintro e w1 ⟨rfl, hb1⟩
        obtain ⟨hc1, hf1⟩ := bcell hb1
        have hs1 := hb1.size
        simp at hs1
        have p0 : w1.cell? ⟨w.heap.size + 1, 0, none⟩ = some (.int .i64 0) := by rw [hc1 _ _ (by simp)]; simp [go_sem]
        have p1 : w1.cell? ⟨w.heap.size + 1, 1, none⟩ = some (.int .i64 0) := by rw [hc1 _ _ (by simp)]; simp [go_sem]
        have p2 : ∀ o, w1.frozen? ⟨w.heap.size + 1, o, none⟩ = false := by intro o; rw [hf1 _ _ (by simp)]; simp [go_sem]
        have P0 := Lib.hid p0
        have P1 := Lib.hid p1
        have P2 := Lib.hid p2
        have c0 : w1.cell? ⟨w.heap.size, 0, none⟩ = some (.int .i64 lo) := by rw [hc1 _ _ (by simp; try omega)]; simp [go_sem]
        have c1 : w1.cell? ⟨w.heap.size, 1, none⟩ = some (.int .i64 hi) := by rw [hc1 _ _ (by simp; try omega)]; simp [go_sem]
        clear p0 p1 p2 hc1 hf1
        go_wp2_with (first | (go_at_call 85; refine (isQ_eq _ _ _ H2.out).mono ?_; rintro e w' ⟨rfl, rfl⟩) | (go_at_call 105; refine (isD_eq _ _ _ H3.out).mono ?_; rintro e w' ⟨rfl, rfl⟩))
        refine (spanOf1 (lo, n, d) (hi, n, d) _ _ _ HR.out.1 HR.out.2 (by first | (simp; done) | (simp [go_sem]; done) | (go_simp; done)) (by first | (simp; done) | (simp [go_sem]; done) | (go_simp; done)) (by first | (simp; done) | (simp [go_sem]; done) | (go_simp; done)) (by first | (simp; done) | (simp [go_sem]; done) | (go_simp; done)) P HP.out).mono ?_
        rintro e w2 ⟨rfl, hb2⟩
        have zlt : w.heap.size + 1 < w1.heap.size := by omega
        have q0 : w2.cell? ⟨w.heap.size + 1, 0, none⟩ = some (.int .i64 0) := by rw [hb2.cell (p := ⟨w.heap.size + 1, 0, none⟩) (by first | exact zlt | (simp; omega))]; first | exact P0.out | exact keep_alloc P0.out
        have q1 : w2.cell? ⟨w.heap.size + 1, 1, none⟩ = some (.int .i64 0) := by rw [hb2.cell (p := ⟨w.heap.size + 1, 1, none⟩) (by first | exact zlt | (simp; omega))]; first | exact P1.out | exact keep_alloc P1.out
        have q2 : ∀ o, w2.frozen? ⟨w.heap.size + 1, o, none⟩ = false := by
          intro o
          rw [hb2.frozen (p := ⟨w.heap.size + 1, o, none⟩) (by first | exact zlt | (simp; omega))]
          first | exact P2.out o | (rw [World.frozen?_alloc_past _ _ _ zlt]; exact P2.out o)
        clear c0 c1
        go_wp2_with fail
        exact bodyPost_ret (v := .tuple #[.agg #[.int .i64 P.1, .int .i64 P.2.1], .int .i64 P.2.2]) (by simp [results, Try.results64, go_sem, q0, q1]) rfl ⟨rfl, by repeat (first | exact Below.refl _ _ | assumption | refine Below.trans ?_ (hb2.mono (by first | (simp; done) | omega | (simp; omega) | (have := hb1.size; (try simp at this); omega))) | refine Below.trans ?_ (hb1.mono (by first | (simp; done) | omega | (simp; omega))) | refine Below.drew ?_ | refine below_drewN ?_ _ | refine Below.setCell ?_ (by first | (simp; done) | omega | (simp; omega)) _ | refine Below.alloc ?_ (by first | (simp; done) | omega | (simp; omega)) _)⟩
end Go.Proofs.Ytlaalhbicblbeaa
