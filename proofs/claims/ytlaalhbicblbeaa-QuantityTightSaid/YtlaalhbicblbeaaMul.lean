/- The contracts of Mul and Has. -/
import Derived.Test.YtlaalhbicblbeaaSpo
import Derived.Test.YtlaalhbicblbeaaChs
namespace Go.Proofs.Ytlaalhbicblbeaa
open Go.RowKit
theorem checkSpans2 (al ah bl bh : Int) (b cap : Nat) (W : World) (h0 : W.cell? ⟨b, 0, none⟩ = some (.int .i64 al)) (h1 : W.cell? ⟨b, 1, none⟩ = some (.int .i64 ah)) (h2 : W.cell? ⟨b, 2, none⟩ = some (.int .i64 bl)) (h3 : W.cell? ⟨b, 3, none⟩ = some (.int .i64 bh)) (hb : b < W.heap.size) (e : Int) (he : chkL [(al, ah), (bl, bh)] = e) :
    Calls Try.prog 100 #[.slice (some ⟨b, 0, none⟩) 2 cap] W fun r w' => r = .returned (.int .i64 e) ∧ Below W.heap.size W w' := by
  rw [← he]
  refine checkSpans_any [(al, ah), (bl, bh)] b 0 cap W ?_ hb (by simp)
  intro i hi
  simp only [List.length_cons, List.length_nil] at hi
  match i, hi with
  | 0, _ => exact ⟨h0, h1⟩
  | 1, _ => exact ⟨h2, h3⟩
theorem spanOf3 (f : Rat3) (p q r : Rat3) (b cap : Nat) (W : World) (hf : RatOk f) (hp : RatOk p) (hq : RatOk q) (hr : RatOk r)
    (h0 : W.cell? ⟨b, 0, none⟩ = some (.int .i64 p.1)) (h1 : W.cell? ⟨b, 1, none⟩ = some (.int .i64 p.2.1)) (h2 : W.cell? ⟨b, 2, none⟩ = some (.int .i64 p.2.2))
    (h3 : W.cell? ⟨b, 3, none⟩ = some (.int .i64 q.1)) (h4 : W.cell? ⟨b, 4, none⟩ = some (.int .i64 q.2.1)) (h5 : W.cell? ⟨b, 5, none⟩ = some (.int .i64 q.2.2))
    (h6 : W.cell? ⟨b, 6, none⟩ = some (.int .i64 r.1)) (h7 : W.cell? ⟨b, 7, none⟩ = some (.int .i64 r.2.1)) (h8 : W.cell? ⟨b, 8, none⟩ = some (.int .i64 r.2.2)) (hb : b < W.heap.size)
    (P : Int × Int × Int) (hP : QM.sp (loF (QM.vF f.1 f.2.1 f.2.2) [p, q, r]) (hiF (QM.vC f.1 f.2.1 f.2.2) [p, q, r]) = P) :
    Calls Try.prog 106 #[.agg #[.int .i64 f.1, .int .i64 f.2.1, .int .i64 f.2.2], .slice (some ⟨b, 0, none⟩) 3 cap] W fun e w' => e = .returned (.tuple #[.agg #[.int .i64 P.1, .int .i64 P.2.1], .int .i64 P.2.2]) ∧ Below W.heap.size W w' := by
  rw [← hP]
  refine spanOf_any f.1 f.2.1 f.2.2 [p, q, r] b 0 cap W hf ?_ ?_ hb (by simp)
  · intro i hi
    simp only [List.length_cons, List.length_nil] at hi
    match i, hi with
    | 0, _ => exact ⟨h0, h1, h2⟩
    | 1, _ => exact ⟨h3, h4, h5⟩
    | 2, _ => exact ⟨h6, h7, h8⟩
  · intro x hx
    simp only [List.mem_cons, List.not_mem_nil, or_false] at hx
    rcases hx with rfl | rfl | rfl
    · exact hp
    · exact hq
    · exact hr
theorem allV2 (al ah bl bh : Int) : allV [(al, ah), (bl, bh)] = (QM.vld al ah && QM.vld bl bh) := by simp [allV]
def mulP (al ah bl bh d : Int) : Int × Int × Int := if allV [(al, ah), (bl, bh)] = true ∧ QM.isD d = true then QM.sp (loF (QM.vF al bl d) [(al, bh, d), (ah, bl, d), (ah, bh, d)]) (hiF (QM.vC al bl d) [(al, bh, d), (ah, bl, d), (ah, bh, d)]) else (0, 0, 2)
theorem ratOk_of {a b d : Int} (h1 : -1099511627776 ≤ a) (h2 : a ≤ 1099511627776) (h3 : -1099511627776 ≤ b) (h4 : b ≤ 1099511627776) (h5 : 1 ≤ d) (h6 : d ≤ 1099511627776) : RatOk (a, b, d) := ⟨by simp; omega, by simp; omega, by simp; omega, by simp; omega, h5, by simp; omega⟩
set_option maxRecDepth 100000 in
set_option maxHeartbeats 2000000 in
/-- 'Mul' -/
theorem Mul_any (al ah bl bh d : Int) (w : World) : Calls Try.prog 29 #[.agg #[.int .i64 al, .int .i64 ah], .agg #[.int .i64 bl, .int .i64 bh], .int .i64 d] w fun e w' => e = .returned (.tuple #[.agg #[.int .i64 (mulP al ah bl bh d).1, .int .i64 (mulP al ah bl bh d).2.1], .int .i64 (mulP al ah bl bh d).2.2]) ∧ Below w.heap.size w w' := by
  cases hv : allV [(al, ah), (bl, bh)]
  · have hP : mulP al ah bl bh d = (0, 0, 2) := if_neg (by rw [hv]; simp)
    have hc : chkL [(al, ah), (bl, bh)] = 2 := by unfold chkL; rw [hv]; rfl
    rw [hP]
    have HC := Lib.hid hc
    clear hv hP hc
    go_enter Try.func29, Try.ntmps29
    go_wp2_with fail
    refine (checkSpans2 al ah bl bh _ _ _ (by first | (simp; done) | (simp [go_sem]; done) | (go_simp; done)) (by first | (simp; done) | (simp [go_sem]; done) | (go_simp; done)) (by first | (simp; done) | (simp [go_sem]; done) | (go_simp; done)) (by first | (simp; done) | (simp [go_sem]; done) | (go_simp; done)) (by first | (simp; done) | (simp [go_sem]; done) | (go_simp; done)) _ HC.out).mono ?_
    rintro e w1 ⟨rfl, hb1⟩
    obtain ⟨hc1, hf1⟩ := bcell hb1
    go_wp2_with fail
    exact bodyPost_ret (v := .tuple #[.agg #[.int .i64 0, .int .i64 0], .int .i64 2]) (by simp [results, Try.results29, go_sem, hc1]) rfl ⟨rfl, by repeat (first | exact Below.refl _ _ | assumption | refine Below.trans ?_ (hb3.mono (by first | (simp; done) | omega | (simp; omega) | (have := hb1.size; (try simp at this); omega))) | refine Below.trans ?_ (hb2.mono (by first | (simp; done) | omega | (simp; omega) | (have := hb1.size; (try simp at this); omega))) | refine Below.trans ?_ (hb1.mono (by first | (simp; done) | omega | (simp; omega))) | refine Below.drew ?_ | refine below_drewN ?_ _ | refine Below.setCell ?_ (by first | (simp; done) | omega | (simp; omega)) _ | refine Below.alloc ?_ (by first | (simp; done) | omega | (simp; omega)) _)⟩
  · cases hd : QM.isD d
    · have hP : mulP al ah bl bh d = (0, 0, 2) := if_neg (by rw [hd]; simp)
      have hc : chkL [(al, ah), (bl, bh)] = 0 := by unfold chkL; rw [hv]; rfl
      rw [hP]
      have HC := Lib.hid hc
      have HD := Lib.hid hd
      clear hv hP hc hd
      go_enter Try.func29, Try.ntmps29
      go_wp2_with fail
      refine (checkSpans2 al ah bl bh _ _ _ (by first | (simp; done) | (simp [go_sem]; done) | (go_simp; done)) (by first | (simp; done) | (simp [go_sem]; done) | (go_simp; done)) (by first | (simp; done) | (simp [go_sem]; done) | (go_simp; done)) (by first | (simp; done) | (simp [go_sem]; done) | (go_simp; done)) (by first | (simp; done) | (simp [go_sem]; done) | (go_simp; done)) _ HC.out).mono ?_
      rintro e w1 ⟨rfl, hb1⟩
      obtain ⟨hc1, hf1⟩ := bcell hb1
      go_wp2_with (go_at_call 105; refine (isD_f d _ HD.out).mono ?_; rintro e w' ⟨rfl, rfl⟩)
      exact bodyPost_ret (v := .tuple #[.agg #[.int .i64 0, .int .i64 0], .int .i64 2]) (by simp [results, Try.results29, go_sem, hc1]) rfl ⟨rfl, by repeat (first | exact Below.refl _ _ | assumption | refine Below.trans ?_ (hb3.mono (by first | (simp; done) | omega | (simp; omega) | (have := hb1.size; (try simp at this); omega))) | refine Below.trans ?_ (hb2.mono (by first | (simp; done) | omega | (simp; omega) | (have := hb1.size; (try simp at this); omega))) | refine Below.trans ?_ (hb1.mono (by first | (simp; done) | omega | (simp; omega))) | refine Below.drew ?_ | refine below_drewN ?_ _ | refine Below.setCell ?_ (by first | (simp; done) | omega | (simp; omega)) _ | refine Below.alloc ?_ (by first | (simp; done) | omega | (simp; omega)) _)⟩
    · obtain ⟨P, hPP⟩ : ∃ P, QM.sp (loF (QM.vF al bl d) [(al, bh, d), (ah, bl, d), (ah, bh, d)]) (hiF (QM.vC al bl d) [(al, bh, d), (ah, bl, d), (ah, bh, d)]) = P := ⟨_, rfl⟩
      have hP : mulP al ah bl bh d = P := by rw [← hPP]; exact if_pos ⟨hv, hd⟩
      have hc : chkL [(al, ah), (bl, bh)] = 0 := by unfold chkL; rw [hv]; rfl
      rw [allV2, Bool.and_eq_true] at hv
      have v1 := QM.vld_iff.1 hv.1
      have v2 := QM.vld_iff.1 hv.2
      have v3 := QM.isD_bd hd
      have R1 : RatOk (al, bl, d) := ratOk_of (by omega) (by omega) (by omega) (by omega) v3.1 v3.2
      have R2 : RatOk (al, bh, d) := ratOk_of (by omega) (by omega) (by omega) (by omega) v3.1 v3.2
      have R3 : RatOk (ah, bl, d) := ratOk_of (by omega) (by omega) (by omega) (by omega) v3.1 v3.2
      have R4 : RatOk (ah, bh, d) := ratOk_of (by omega) (by omega) (by omega) (by omega) v3.1 v3.2
      rw [hP]
      have HC := Lib.hid hc
      have HD := Lib.hid hd
      have HP := Lib.hid hPP
      have HR := Lib.hid (And.intro R1 (And.intro R2 (And.intro R3 R4)))
      clear hv hP hc hd v1 v2 v3 R1 R2 R3 R4 hPP
      go_enter Try.func29, Try.ntmps29
      go_wp2_with fail
      refine (checkSpans2 al ah bl bh _ _ _ (by first | (simp; done) | (simp [go_sem]; done) | (go_simp; done)) (by first | (simp; done) | (simp [go_sem]; done) | (go_simp; done)) (by first | (simp; done) | (simp [go_sem]; done) | (go_simp; done)) (by first | (simp; done) | (simp [go_sem]; done) | (go_simp; done)) (by first | (simp; done) | (simp [go_sem]; done) | (go_simp; done)) _ HC.out).mono ?_
      rintro e w1 ⟨rfl, hb1⟩
      obtain ⟨hc1, hf1⟩ := bcell hb1
      have hs1 := hb1.size
      simp at hs1
      go_wp2_with (go_at_call 105; refine (isD_t d _ HD.out).mono ?_; rintro e w' ⟨rfl, rfl⟩)
      refine (spanOf3 (al, bl, d) (al, bh, d) (ah, bl, d) (ah, bh, d) _ _ _ HR.out.1 HR.out.2.1 HR.out.2.2.1 HR.out.2.2.2 (by first | (simp; done) | (simp [go_sem]; done) | (go_simp; done)) (by first | (simp; done) | (simp [go_sem]; done) | (go_simp; done)) (by first | (simp; done) | (simp [go_sem]; done) | (go_simp; done)) (by first | (simp; done) | (simp [go_sem]; done) | (go_simp; done)) (by first | (simp; done) | (simp [go_sem]; done) | (go_simp; done)) (by first | (simp; done) | (simp [go_sem]; done) | (go_simp; done)) (by first | (simp; done) | (simp [go_sem]; done) | (go_simp; done)) (by first | (simp; done) | (simp [go_sem]; done) | (go_simp; done)) (by first | (simp; done) | (simp [go_sem]; done) | (go_simp; done)) (by first | (simp; done) | (simp [go_sem]; done) | (go_simp; done)) P HP.out).mono ?_
      rintro e w2 ⟨rfl, hb2⟩
      have z1 : w.heap.size + 2 < w1.heap.size := by omega
      have p0 : w1.cell? ⟨w.heap.size + 2, 0, none⟩ = some (.int .i64 0) := by rw [hc1 _ _ (by simp)]; simp [go_sem]
      have p1 : w1.cell? ⟨w.heap.size + 2, 1, none⟩ = some (.int .i64 0) := by rw [hc1 _ _ (by simp)]; simp [go_sem]
      have p2 : ∀ o, w1.frozen? ⟨w.heap.size + 2, o, none⟩ = false := by intro o; rw [hf1 _ _ (by simp)]; simp [go_sem]
      have q0 : w2.cell? ⟨w.heap.size + 2, 0, none⟩ = some (.int .i64 0) := by rw [hb2.cell (p := ⟨w.heap.size + 2, 0, none⟩) (by simp; omega)]; exact keep_alloc p0
      have q1 : w2.cell? ⟨w.heap.size + 2, 1, none⟩ = some (.int .i64 0) := by rw [hb2.cell (p := ⟨w.heap.size + 2, 1, none⟩) (by simp; omega)]; exact keep_alloc p1
      have q2 : ∀ o, w2.frozen? ⟨w.heap.size + 2, o, none⟩ = false := by
        intro o
        rw [hb2.frozen (p := ⟨w.heap.size + 2, o, none⟩) (by simp; omega), World.frozen?_alloc_past _ _ _ z1, p2]
      clear hc1 hf1 p0 p1 p2
      go_wp2_with fail
      exact bodyPost_ret (v := .tuple #[.agg #[.int .i64 P.1, .int .i64 P.2.1], .int .i64 P.2.2]) (by simp [results, Try.results29, go_sem, q0, q1]) rfl ⟨rfl, by repeat (first | exact Below.refl _ _ | assumption | refine Below.trans ?_ (hb3.mono (by first | (simp; done) | omega | (simp; omega) | (have := hb1.size; (try simp at this); omega))) | refine Below.trans ?_ (hb2.mono (by first | (simp; done) | omega | (simp; omega) | (have := hb1.size; (try simp at this); omega))) | refine Below.trans ?_ (hb1.mono (by first | (simp; done) | omega | (simp; omega))) | refine Below.drew ?_ | refine below_drewN ?_ _ | refine Below.setCell ?_ (by first | (simp; done) | omega | (simp; omega)) _ | refine Below.alloc ?_ (by first | (simp; done) | omega | (simp; omega)) _)⟩
set_option maxRecDepth 100000 in
set_option maxHeartbeats 1000000 in
/-- 'Has' -/
theorem Has_any (lo hi x : Int) (w : World) : Calls Try.prog 69 #[.agg #[.int .i64 lo, .int .i64 hi], .int .i64 x] w fun e w' => e = .returned (.bool (QM.vld lo hi && (decide (lo ≤ x) && decide (x ≤ hi)))) ∧ Below w.heap.size w w' := by
  cases hv : QM.vld lo hi
  · have hc : QM.chk lo hi = 2 := by unfold QM.chk; rw [hv]; rfl
    have K := Lib.hid (fun W => Check_any lo hi W)
    rw [hc] at K
    clear hv hc
    go_enter Try.func69, Try.ntmps69
    go_wp2_with fail
    refine (K.out _).mono ?_
    rintro e w1 ⟨rfl, hb1⟩
    obtain ⟨hc1, hf1⟩ := bcell hb1
    go_wp2_with fail
    go_ret
    exact ⟨rfl, by repeat (first | exact Below.refl _ _ | assumption | refine Below.trans ?_ (hb2.mono (by first | (simp; done) | omega | (simp; omega) | (have := hb1.size; (try simp at this); omega))) | refine Below.trans ?_ (hb1.mono (by first | (simp; done) | omega | (simp; omega))) | refine Below.drew ?_ | refine below_drewN ?_ _ | refine Below.setCell ?_ (by first | (simp; done) | omega | (simp; omega)) _ | refine Below.alloc ?_ (by first | (simp; done) | omega | (simp; omega)) _)⟩
  · have hc : QM.chk lo hi = 0 := by unfold QM.chk; rw [hv]; rfl
    have K := Lib.hid (fun W => Check_any lo hi W)
    rw [hc] at K
    have K2 := Lib.hid (fun W => contains_any lo hi x W)
    rw [Bool.true_and]
    generalize (decide (lo ≤ x) && decide (x ≤ hi)) = bb at *
    clear hv hc
    go_enter Try.func69, Try.ntmps69
    go_wp2_with fail
    refine (K.out _).mono ?_
    rintro e w1 ⟨rfl, hb1⟩
    obtain ⟨hc1, hf1⟩ := bcell hb1
    go_wp2_with fail
    refine (K2.out _).mono ?_
    rintro e w2 ⟨rfl, hb2⟩
    go_wp2_with fail
    go_ret
    exact ⟨rfl, by repeat (first | exact Below.refl _ _ | assumption | refine Below.trans ?_ (hb2.mono (by first | (simp; done) | omega | (simp; omega) | (have := hb1.size; (try simp at this); omega))) | refine Below.trans ?_ (hb1.mono (by first | (simp; done) | omega | (simp; omega))) | refine Below.drew ?_ | refine below_drewN ?_ _ | refine Below.setCell ?_ (by first | (simp; done) | omega | (simp; omega)) _ | refine Below.alloc ?_ (by first | (simp; done) | omega | (simp; omega)) _)⟩
end Go.Proofs.Ytlaalhbicblbeaa
