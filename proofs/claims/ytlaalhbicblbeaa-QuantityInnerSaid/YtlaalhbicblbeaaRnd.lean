/- The contracts of the roundings of package quantity. -/
import Derived.Test.YtlaalhbicblbeaaSpl
namespace Go.Proofs.Ytlaalhbicblbeaa
open Go.RowKit
set_option maxRecDepth 100000 in
set_option maxHeartbeats 400000 in
theorem floor_any (a b d : Int) (w : World) (ha : -9000000000000 ≤ a) (ha2 : a ≤ 9000000000000) (hb : -9000000000000 ≤ b) (hb2 : b ≤ 9000000000000) (hd : 1 ≤ d) (hd2 : d ≤ 9000000000000) :
    Calls Try.prog 75 #[.agg #[.int .i64 a, .int .i64 b, .int .i64 d]] w fun e w' => e = .returned (.int .i64 (QM.vF a b d)) ∧ Below w.heap.size w w' := by
  have hs := QM.sW_bd a b d
  have K := Lib.hid (fun W => split_any a b d W ha ha2 hb hb2 hd hd2)
  go_enter Try.func75, Try.ntmps75
  go_wp2_with (go_at_call 129; refine (K.out _).mono ?_; rintro e w' ⟨rfl, hb1⟩)
  go_ret
  exact ⟨rfl, by repeat (first | exact Below.refl _ _ | refine Below.trans ?_ (hb1.mono (by first | (simp; done) | omega | (simp; omega))) | refine Below.alloc ?_ (by first | (simp; done) | omega | (simp; omega)) _)⟩
set_option maxRecDepth 100000 in
set_option maxHeartbeats 400000 in
theorem ceil_any (a b d : Int) (w : World) (ha : -9000000000000 ≤ a) (ha2 : a ≤ 9000000000000) (hb : -9000000000000 ≤ b) (hb2 : b ≤ 9000000000000) (hd : 1 ≤ d) (hd2 : d ≤ 9000000000000) :
    Calls Try.prog 80 #[.agg #[.int .i64 a, .int .i64 b, .int .i64 d]] w fun e w' => e = .returned (.int .i64 (QM.vC a b d)) ∧ Below w.heap.size w w' := by
  have hs := QM.sW_bd a b d
  have K := Lib.hid (fun W => split_any a b d W ha ha2 hb hb2 hd hd2)
  have hm := Int.emod_nonneg (a * b) (show d ≠ 0 by omega)
  unfold QM.vC
  by_cases c : 0 < a * b % d
  · rw [if_pos c]
    go_enter Try.func80, Try.ntmps80
    go_wp2_with (go_at_call 129; refine (K.out _).mono ?_; rintro e w' ⟨rfl, hb1⟩)
    go_ret
    exact ⟨rfl, by repeat (first | exact Below.refl _ _ | refine Below.trans ?_ (hb1.mono (by first | (simp; done) | omega | (simp; omega))) | refine Below.alloc ?_ (by first | (simp; done) | omega | (simp; omega)) _)⟩
  · rw [if_neg c]
    go_enter Try.func80, Try.ntmps80
    go_wp2_with (go_at_call 129; refine (K.out _).mono ?_; rintro e w' ⟨rfl, hb1⟩)
    go_ret
    exact ⟨rfl, by repeat (first | exact Below.refl _ _ | refine Below.trans ?_ (hb1.mono (by first | (simp; done) | omega | (simp; omega))) | refine Below.alloc ?_ (by first | (simp; done) | omega | (simp; omega)) _)⟩
set_option maxRecDepth 100000 in
set_option maxHeartbeats 400000 in
theorem nearest_any (a b d : Int) (w : World) (ha : -9000000000000 ≤ a) (ha2 : a ≤ 9000000000000) (hb : -9000000000000 ≤ b) (hb2 : b ≤ 9000000000000) (hd : 1 ≤ d) (hd2 : d ≤ 9000000000000) :
    Calls Try.prog 82 #[.agg #[.int .i64 a, .int .i64 b, .int .i64 d]] w fun e w' => e = .returned (.int .i64 (QM.vN a b d)) ∧ Below w.heap.size w w' := by
  have hs := QM.sW_bd a b d
  have K := Lib.hid (fun W => split_any a b d W ha ha2 hb hb2 hd hd2)
  have hm := Int.emod_nonneg (a * b) (show d ≠ 0 by omega)
  have hm2 := Int.emod_lt_of_pos (a * b) (show 0 < d by omega)
  unfold QM.vN
  by_cases c : d ≤ 2 * (a * b % d)
  · rw [if_pos c]
    go_enter Try.func82, Try.ntmps82
    go_wp2_with (go_at_call 129; refine (K.out _).mono ?_; rintro e w' ⟨rfl, hb1⟩; obtain ⟨hc1, hf1⟩ := bcell hb1)
    go_ret
    exact ⟨rfl, by repeat (first | exact Below.refl _ _ | refine Below.trans ?_ (hb1.mono (by first | (simp; done) | omega | (simp; omega))) | refine Below.alloc ?_ (by first | (simp; done) | omega | (simp; omega)) _)⟩
  · rw [if_neg c]
    go_enter Try.func82, Try.ntmps82
    go_wp2_with (go_at_call 129; refine (K.out _).mono ?_; rintro e w' ⟨rfl, hb1⟩; obtain ⟨hc1, hf1⟩ := bcell hb1)
    go_ret
    exact ⟨rfl, by repeat (first | exact Below.refl _ _ | refine Below.trans ?_ (hb1.mono (by first | (simp; done) | omega | (simp; omega))) | refine Below.alloc ?_ (by first | (simp; done) | omega | (simp; omega)) _)⟩
set_option maxHeartbeats 400000 in
theorem isQ_t (x : Int) (w : World) (h : QM.isQ x = true) : Calls Try.prog 85 #[.int .i64 x] w fun e w' => e = .returned (.bool true) ∧ w = w' := by
  obtain ⟨h1, h2⟩ := QM.isQ_bd h
  clear h
  go_enter Try.func85, Try.ntmps85
  go_wp2
  go_ret
  exact ⟨rfl, rfl⟩
set_option maxHeartbeats 400000 in
theorem isQ_f (x : Int) (w : World) (h : QM.isQ x = false) : Calls Try.prog 85 #[.int .i64 x] w fun e w' => e = .returned (.bool false) ∧ w = w' := by
  have h' : ¬ (-1099511627776 ≤ x ∧ x ≤ 1099511627776) := by unfold QM.isQ at h; simpa using h
  clear h
  by_cases h1 : -1099511627776 ≤ x
  · have h2 : 1099511627776 < x := by omega
    have h3 : decide (x ≤ 1099511627776) = false := by simp; omega
    clear h'
    go_enter Try.func85, Try.ntmps85
    go_wp2
    go_ret
    exact ⟨rfl, rfl⟩
  · have h2 : x < -1099511627776 := by omega
    clear h'
    go_enter Try.func85, Try.ntmps85
    go_wp2
    go_ret
    exact ⟨rfl, rfl⟩
theorem isQ_eq (x : Int) (b : Bool) (w : World) (h : QM.isQ x = b) : Calls Try.prog 85 #[.int .i64 x] w fun e w' => e = .returned (.bool b) ∧ w = w' := by
  cases b
  · exact isQ_f x w h
  · exact isQ_t x w h
set_option maxHeartbeats 400000 in
theorem isD_t (x : Int) (w : World) (h : QM.isD x = true) : Calls Try.prog 105 #[.int .i64 x] w fun e w' => e = .returned (.bool true) ∧ w = w' := by
  obtain ⟨h1, h2⟩ := QM.isD_bd h
  clear h
  go_enter Try.func105, Try.ntmps105
  go_wp2
  go_ret
  exact ⟨rfl, rfl⟩
set_option maxHeartbeats 400000 in
theorem isD_f (x : Int) (w : World) (h : QM.isD x = false) : Calls Try.prog 105 #[.int .i64 x] w fun e w' => e = .returned (.bool false) ∧ w = w' := by
  have h' : ¬ (1 ≤ x ∧ x ≤ 1099511627776) := by unfold QM.isD at h; simpa using h
  clear h
  by_cases h1 : 1 ≤ x
  · have h2 : 1099511627776 < x := by omega
    have h3 : decide (x ≤ 1099511627776) = false := by simp; omega
    clear h'
    go_enter Try.func105, Try.ntmps105
    go_wp2
    go_ret
    exact ⟨rfl, rfl⟩
  · have h2 : x < 1 := by omega
    clear h'
    go_enter Try.func105, Try.ntmps105
    go_wp2
    go_ret
    exact ⟨rfl, rfl⟩
theorem isD_eq (x : Int) (b : Bool) (w : World) (h : QM.isD x = b) : Calls Try.prog 105 #[.int .i64 x] w fun e w' => e = .returned (.bool b) ∧ w = w' := by
  cases b
  · exact isD_f x w h
  · exact isD_t x w h
set_option maxHeartbeats 400000 in
/-- 'limited' -/
theorem limited_any (x : Int) (w : World) : Calls Try.prog 128 #[.int .i64 x] w fun e w' => e = .returned (.tuple #[.int .i64 (QM.lim x).1, .int .i64 (QM.lim x).2]) ∧ w = w' := by
  unfold QM.lim
  by_cases h : QM.isQ x = true
  · rw [if_pos h]
    have H := Lib.hid h
    clear h
    go_enter Try.func128, Try.ntmps128
    go_wp2_with (go_at_call 85; refine (isQ_t _ _ H.out).mono ?_; rintro e w' ⟨rfl, rfl⟩)
    go_ret2
    exact ⟨rfl, rfl⟩
  · rw [if_neg h]
    have h2 : QM.isQ x = false := by simpa using h
    have H := Lib.hid h2
    clear h h2
    go_enter Try.func128, Try.ntmps128
    go_wp2_with (go_at_call 85; refine (isQ_f _ _ H.out).mono ?_; rintro e w' ⟨rfl, rfl⟩)
    go_ret2
    exact ⟨rfl, rfl⟩
set_option maxRecDepth 100000 in
set_option maxHeartbeats 400000 in
theorem rounded_floor (x n d : Int) (w : World) : Calls Try.prog 74 #[.int .i64 x, .int .i64 n, .int .i64 d, .func (.func 75) #[] #[]] w fun e w' => e = .returned (.tuple #[.int .i64 (QM.rnd QM.vF x n d).1, .int .i64 (QM.rnd QM.vF x n d).2]) ∧ Below w.heap.size w w' := by
  by_cases h1 : QM.isQ x = true
  · have H1 := Lib.hid h1
    by_cases h2 : QM.isQ n = true
    · have H2 := Lib.hid h2
      by_cases h3 : QM.isD d = true
      · have H3 := Lib.hid h3
        rw [QM.rnd_good h1 h2 h3]
        obtain ⟨a1, a2⟩ := QM.isQ_bd h1
        obtain ⟨a3, a4⟩ := QM.isQ_bd h2
        obtain ⟨a5, a6⟩ := QM.isD_bd h3
        have K := Lib.hid (fun W => floor_any x n d W (by omega) (by omega) (by omega) (by omega) (by omega) (by omega))
        clear h1 h2 h3
        generalize QM.vF x n d = v at *
        go_enter Try.func74, Try.ntmps74
        go_wp2_with (first | (go_at_call 85; refine (isQ_eq _ _ _ (by first | exact H1.out | exact H2.out)).mono ?_; rintro e w' ⟨rfl, rfl⟩) | (go_at_call 105; refine (isD_t d _ H3.out).mono ?_; rintro e w' ⟨rfl, rfl⟩) | (go_at_call 75; refine (K.out _).mono ?_; rintro e w' ⟨rfl, hb1⟩) | (go_at_call 128; refine (limited_any v _).mono ?_; rintro e w' ⟨rfl, rfl⟩))
        go_ret2
        exact ⟨rfl, by repeat (first | exact Below.refl _ _ | assumption | refine Below.trans ?_ (hb1.mono (by first | (simp; done) | omega | (simp; omega))) | refine Below.alloc ?_ (by first | (simp; done) | omega | (simp; omega)) _)⟩
      · rw [QM.rnd_bad (fun h => h3 h.2.2)]
        have h3' : QM.isD d = false := by simpa using h3
        have H3 := Lib.hid h3'
        clear h1 h2 h3 h3'
        go_enter Try.func74, Try.ntmps74
        go_wp2_with (first | (go_at_call 85; refine (isQ_eq _ _ _ (by first | exact H1.out | exact H2.out)).mono ?_; rintro e w' ⟨rfl, rfl⟩) | (go_at_call 105; refine (isD_f d _ H3.out).mono ?_; rintro e w' ⟨rfl, rfl⟩))
        go_ret2
        exact ⟨rfl, Below.refl _ _⟩
    · rw [QM.rnd_bad (fun h => h2 h.2.1)]
      have h2' : QM.isQ n = false := by simpa using h2
      have H2 := Lib.hid h2'
      clear h1 h2 h2'
      go_enter Try.func74, Try.ntmps74
      go_wp2_with (go_at_call 85; refine (isQ_eq _ _ _ (by first | exact H1.out | exact H2.out)).mono ?_; rintro e w' ⟨rfl, rfl⟩)
      go_ret2
      exact ⟨rfl, Below.refl _ _⟩
  · rw [QM.rnd_bad (fun h => h1 h.1)]
    have h1' : QM.isQ x = false := by simpa using h1
    have H1 := Lib.hid h1'
    clear h1 h1'
    go_enter Try.func74, Try.ntmps74
    go_wp2_with (go_at_call 85; refine (isQ_f x _ H1.out).mono ?_; rintro e w' ⟨rfl, rfl⟩)
    go_ret2
    exact ⟨rfl, Below.refl _ _⟩
set_option maxHeartbeats 400000 in
theorem Floor_any (x n d : Int) (w : World) : Calls Try.prog 13 #[.int .i64 x, .int .i64 n, .int .i64 d] w fun e w' => e = .returned (.tuple #[.int .i64 (QM.rnd QM.vF x n d).1, .int .i64 (QM.rnd QM.vF x n d).2]) ∧ Below w.heap.size w w' := by
  go_enter Try.func13, Try.ntmps13
  go_wp2_with (go_at_call 74; refine (rounded_floor x n d _).mono ?_; rintro e w' ⟨rfl, hb1⟩)
  go_ret2
  exact ⟨rfl, hb1⟩
set_option maxRecDepth 100000 in
set_option maxHeartbeats 400000 in
theorem rounded_ceil (x n d : Int) (w : World) : Calls Try.prog 74 #[.int .i64 x, .int .i64 n, .int .i64 d, .func (.func 80) #[] #[]] w fun e w' => e = .returned (.tuple #[.int .i64 (QM.rnd QM.vC x n d).1, .int .i64 (QM.rnd QM.vC x n d).2]) ∧ Below w.heap.size w w' := by
  by_cases h1 : QM.isQ x = true
  · have H1 := Lib.hid h1
    by_cases h2 : QM.isQ n = true
    · have H2 := Lib.hid h2
      by_cases h3 : QM.isD d = true
      · have H3 := Lib.hid h3
        rw [QM.rnd_good h1 h2 h3]
        obtain ⟨a1, a2⟩ := QM.isQ_bd h1
        obtain ⟨a3, a4⟩ := QM.isQ_bd h2
        obtain ⟨a5, a6⟩ := QM.isD_bd h3
        have K := Lib.hid (fun W => ceil_any x n d W (by omega) (by omega) (by omega) (by omega) (by omega) (by omega))
        clear h1 h2 h3
        generalize QM.vC x n d = v at *
        go_enter Try.func74, Try.ntmps74
        go_wp2_with (first | (go_at_call 85; refine (isQ_eq _ _ _ (by first | exact H1.out | exact H2.out)).mono ?_; rintro e w' ⟨rfl, rfl⟩) | (go_at_call 105; refine (isD_t d _ H3.out).mono ?_; rintro e w' ⟨rfl, rfl⟩) | (go_at_call 80; refine (K.out _).mono ?_; rintro e w' ⟨rfl, hb1⟩) | (go_at_call 128; refine (limited_any v _).mono ?_; rintro e w' ⟨rfl, rfl⟩))
        go_ret2
        exact ⟨rfl, by repeat (first | exact Below.refl _ _ | assumption | refine Below.trans ?_ (hb1.mono (by first | (simp; done) | omega | (simp; omega))) | refine Below.alloc ?_ (by first | (simp; done) | omega | (simp; omega)) _)⟩
      · rw [QM.rnd_bad (fun h => h3 h.2.2)]
        have h3' : QM.isD d = false := by simpa using h3
        have H3 := Lib.hid h3'
        clear h1 h2 h3 h3'
        go_enter Try.func74, Try.ntmps74
        go_wp2_with (first | (go_at_call 85; refine (isQ_eq _ _ _ (by first | exact H1.out | exact H2.out)).mono ?_; rintro e w' ⟨rfl, rfl⟩) | (go_at_call 105; refine (isD_f d _ H3.out).mono ?_; rintro e w' ⟨rfl, rfl⟩))
        go_ret2
        exact ⟨rfl, Below.refl _ _⟩
    · rw [QM.rnd_bad (fun h => h2 h.2.1)]
      have h2' : QM.isQ n = false := by simpa using h2
      have H2 := Lib.hid h2'
      clear h1 h2 h2'
      go_enter Try.func74, Try.ntmps74
      go_wp2_with (go_at_call 85; refine (isQ_eq _ _ _ (by first | exact H1.out | exact H2.out)).mono ?_; rintro e w' ⟨rfl, rfl⟩)
      go_ret2
      exact ⟨rfl, Below.refl _ _⟩
  · rw [QM.rnd_bad (fun h => h1 h.1)]
    have h1' : QM.isQ x = false := by simpa using h1
    have H1 := Lib.hid h1'
    clear h1 h1'
    go_enter Try.func74, Try.ntmps74
    go_wp2_with (go_at_call 85; refine (isQ_f x _ H1.out).mono ?_; rintro e w' ⟨rfl, rfl⟩)
    go_ret2
    exact ⟨rfl, Below.refl _ _⟩
set_option maxHeartbeats 400000 in
theorem Ceil_any (x n d : Int) (w : World) : Calls Try.prog 15 #[.int .i64 x, .int .i64 n, .int .i64 d] w fun e w' => e = .returned (.tuple #[.int .i64 (QM.rnd QM.vC x n d).1, .int .i64 (QM.rnd QM.vC x n d).2]) ∧ Below w.heap.size w w' := by
  go_enter Try.func15, Try.ntmps15
  go_wp2_with (go_at_call 74; refine (rounded_ceil x n d _).mono ?_; rintro e w' ⟨rfl, hb1⟩)
  go_ret2
  exact ⟨rfl, hb1⟩
set_option maxRecDepth 100000 in
set_option maxHeartbeats 400000 in
theorem rounded_nearest (x n d : Int) (w : World) : Calls Try.prog 74 #[.int .i64 x, .int .i64 n, .int .i64 d, .func (.func 82) #[] #[]] w fun e w' => e = .returned (.tuple #[.int .i64 (QM.rnd QM.vN x n d).1, .int .i64 (QM.rnd QM.vN x n d).2]) ∧ Below w.heap.size w w' := by
  by_cases h1 : QM.isQ x = true
  · have H1 := Lib.hid h1
    by_cases h2 : QM.isQ n = true
    · have H2 := Lib.hid h2
      by_cases h3 : QM.isD d = true
      · have H3 := Lib.hid h3
        rw [QM.rnd_good h1 h2 h3]
        obtain ⟨a1, a2⟩ := QM.isQ_bd h1
        obtain ⟨a3, a4⟩ := QM.isQ_bd h2
        obtain ⟨a5, a6⟩ := QM.isD_bd h3
        have K := Lib.hid (fun W => nearest_any x n d W (by omega) (by omega) (by omega) (by omega) (by omega) (by omega))
        clear h1 h2 h3
        generalize QM.vN x n d = v at *
        go_enter Try.func74, Try.ntmps74
        go_wp2_with (first | (go_at_call 85; refine (isQ_eq _ _ _ (by first | exact H1.out | exact H2.out)).mono ?_; rintro e w' ⟨rfl, rfl⟩) | (go_at_call 105; refine (isD_t d _ H3.out).mono ?_; rintro e w' ⟨rfl, rfl⟩) | (go_at_call 82; refine (K.out _).mono ?_; rintro e w' ⟨rfl, hb1⟩) | (go_at_call 128; refine (limited_any v _).mono ?_; rintro e w' ⟨rfl, rfl⟩))
        go_ret2
        exact ⟨rfl, by repeat (first | exact Below.refl _ _ | assumption | refine Below.trans ?_ (hb1.mono (by first | (simp; done) | omega | (simp; omega))) | refine Below.alloc ?_ (by first | (simp; done) | omega | (simp; omega)) _)⟩
      · rw [QM.rnd_bad (fun h => h3 h.2.2)]
        have h3' : QM.isD d = false := by simpa using h3
        have H3 := Lib.hid h3'
        clear h1 h2 h3 h3'
        go_enter Try.func74, Try.ntmps74
        go_wp2_with (first | (go_at_call 85; refine (isQ_eq _ _ _ (by first | exact H1.out | exact H2.out)).mono ?_; rintro e w' ⟨rfl, rfl⟩) | (go_at_call 105; refine (isD_f d _ H3.out).mono ?_; rintro e w' ⟨rfl, rfl⟩))
        go_ret2
        exact ⟨rfl, Below.refl _ _⟩
    · rw [QM.rnd_bad (fun h => h2 h.2.1)]
      have h2' : QM.isQ n = false := by simpa using h2
      have H2 := Lib.hid h2'
      clear h1 h2 h2'
      go_enter Try.func74, Try.ntmps74
      go_wp2_with (go_at_call 85; refine (isQ_eq _ _ _ (by first | exact H1.out | exact H2.out)).mono ?_; rintro e w' ⟨rfl, rfl⟩)
      go_ret2
      exact ⟨rfl, Below.refl _ _⟩
  · rw [QM.rnd_bad (fun h => h1 h.1)]
    have h1' : QM.isQ x = false := by simpa using h1
    have H1 := Lib.hid h1'
    clear h1 h1'
    go_enter Try.func74, Try.ntmps74
    go_wp2_with (go_at_call 85; refine (isQ_f x _ H1.out).mono ?_; rintro e w' ⟨rfl, rfl⟩)
    go_ret2
    exact ⟨rfl, Below.refl _ _⟩
set_option maxHeartbeats 400000 in
theorem Round_any (x n d : Int) (w : World) : Calls Try.prog 17 #[.int .i64 x, .int .i64 n, .int .i64 d] w fun e w' => e = .returned (.tuple #[.int .i64 (QM.rnd QM.vN x n d).1, .int .i64 (QM.rnd QM.vN x n d).2]) ∧ Below w.heap.size w w' := by
  go_enter Try.func17, Try.ntmps17
  go_wp2_with (go_at_call 74; refine (rounded_nearest x n d _).mono ?_; rintro e w' ⟨rfl, hb1⟩)
  go_ret2
  exact ⟨rfl, hb1⟩
end Go.Proofs.Ytlaalhbicblbeaa
